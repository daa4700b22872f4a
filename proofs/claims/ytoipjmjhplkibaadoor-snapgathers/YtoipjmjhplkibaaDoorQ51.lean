import Derived.Test.YtoipjmjhplkibaaDoorQ48
import Derived.Test.YtoipjmjhplkibaaDoorQ50
import Derived.Test.YtoipjmjhplkibaaDoorQ28
/- The contract of the program's Load. -/
namespace Go.Proofs.YtoipjmjhplkibaaDoor
open Go.RowKit DiskMath
set_option maxRecDepth 100000
set_option linter.unusedSimpArgs false
set_option linter.unusedVariables false

theorem Kept.tb {S : Nat → Prop} {w w1 : World} (h : Kept S w w1) (hT : Tb w) (hS2 : ∀ b, S b → 2 ≤ b) : Tb w1 := hT.below (h.below (n := 2) hT.two hS2) (Nat.le_refl _)

/-- What Load tells: Index, Term, bytes, error. -/
def loadT (fs : Files) (g : Nat) : Nat × Nat × List Nat × Nat :=
  match get fs (gName g) with
  | none => (0, 0, [], 4)
  | some f => Fr.snTold f.data
/-- A loaded snapshot: what is told, where its bytes lie, and what the call leaves. -/
def LoadedT (S : Nat → Prop) (w : World) (d : Value) (fs : Files) (T : Nat × Nat × List Nat × Nat) (e : Ending) (w' : World) : Prop :=
  ∃ a n c, e = .returned (.tuple #[.int .u64 (T.1 : Int), .int .u64 (T.2.1 : Int), .slice a n c, .int .i64 (T.2.2.2 : Int)]) ∧ Fr.Bs w'.heap.size w' (.slice a n c) T.2.2.1 ∧ Leaves S w d fs w'

set_option maxHeartbeats 2000000 in
theorem sload_of {S : Nat → Prop} {w : World} {d : Value} {fs : Files} (g : Nat) (hT : Tb w) (hD : Dk S w d fs) (hS2 : ∀ b, S b → 2 ≤ b) (hg : g < 1000) :
    Calls Tryd.prog 16 #[d, .int .i64 (g : Int)] w (LoadedT S w d fs (loadT fs g)) := by
  letI := keepAll
  have hsd := diskOf.sound hD
  have hby := hD.byte
  have hgm : (gName g).size ≤ maxLen := by have := gName_size hg; unfold maxLen; omega
  have kgv := sgiven_of hD
  have kgr := fun w' => group_yes (g : Int) w' (by omega) (by omega)
  have knm : ∀ W, Leaves S w d fs W → Calls Tryd.prog 23 #[.int .i64 (g : Int)] W fun e w' => e = .returned (.string (gName g)) ∧ Leaves S w d fs w' := fun W hL => (sname_of g W (hL.tb hT hS2) hg).mono fun e w' h => ⟨h.1, hL.then h.2⟩
  have hlv : ∀ o, get fs (gName g) = o → loadT fs g = match o with | none => (0, 0, [], 4) | some f => Fr.snTold f.data := fun o h => by subst h; rfl
  have fin : ∀ W (T : Nat × Nat × List Nat × Nat) a n c, loadT fs g = T → Fr.Bs W.heap.size W (.slice a n c) T.2.2.1 → Leaves S w d fs W → Hid (LoadedT S w d fs (loadT fs g) (.returned (.tuple #[.int .u64 (T.1 : Int), .int .u64 (T.2.1 : Int), .slice a n c, .int .i64 (T.2.2.2 : Int)])) W) := fun W T a n c h1 h2 h3 => by
    rw [h1]
    exact ⟨a, n, c, rfl, h2, h3⟩
  have krd : ∀ W, Leaves S w d fs W → Calls Tryd.prog 32 #[d, .string (gName g)] W fun e w' => (∃ a n c, e = .returned (.tuple #[.slice a n c, .bool false]) ∧ Hid (LoadedT S w d fs (loadT fs g) (.returned (.tuple #[.int .u64 0, .int .u64 0, .slice none 0 0, .int .i64 4])) w')) ∨ (∃ a n c, e = .returned (.tuple #[.slice a n c, .bool true]) ∧
      Calls Tryd.prog 33 #[.slice a n c] w' fun e2 w2 => ∃ (i t : Nat) (a2 : Option Addr) (n2 c2 : Nat) (e3 : Nat), e2 = .returned (.tuple #[.int .u64 (i : Int), .int .u64 (t : Int), .slice a2 n2 c2, .int .i64 (e3 : Int)]) ∧ Hid (LoadedT S w d fs (loadT fs g) (.returned (.tuple #[.int .u64 (i : Int), .int .u64 (t : Int), .slice a2 n2 c2, .int .i64 (e3 : Int)])) w2)) := fun W hL => by
    obtain ⟨S1, h1, h2, h3⟩ := id hL
    refine (dread_of (gName g) hgm h1).mono ?_
    rintro e w' ⟨v, l, rfl, hO, hb, hl⟩
    have hL' := hL.then hb
    obtain ⟨a, c, rfl⟩ := hO.shape
    cases hgt : get fs (gName g) with
    | none => exact .inl ⟨_, _, _, rfl, fin w' (0, 0, [], 4) none 0 0 (hlv none hgt) (Fr.Bs.nil _ _) hL'⟩
    | some f =>
      rw [hgt] at hl
      obtain rfl : l = f.data := hl
      have hf := sound_get hsd hgt
      refine .inr ⟨_, _, _, rfl, ?_⟩
      have hOf : Fr.Own W.heap.size w' (.slice a f.data.length c) f.data := hO
      refine (Fr.sread_of w'.heap.size f.data _ w' (hL'.tb hT hS2).1 hOf.bs (hby f (get_mem hgt)) (Nat.le_refl _) (by omega)).mono ?_
      rintro e2 w2 ⟨a2, n2, c2, rfl, hB2, hb2⟩
      exact ⟨_, _, a2, n2, c2, _, rfl, fin w2 _ a2 n2 c2 (hlv (some f) hgt) hB2 (hL'.then hb2)⟩
  obtain ⟨q, rfl⟩ := hD.shape
  generalize gName g = G at *
  generalize LoadedT S w (.pointer (some ⟨q, 0, none⟩)) fs (loadT fs g) = T at *
  clear hD hT hsd hby hlv fin
  go_enter Tryd.func16, Tryd.ntmps16
  go_wp2_with fail
  refine kgv.mono ?_
  rintro e w1 ⟨rfl, hL1⟩
  have kr1 := kgr w1
  clear kgv kgr
  go_wp2_with fail
  refine kr1.mono ?_
  rintro e w1' ⟨rfl, hw1⟩
  rw [hw1]
  clear hw1 w1' kr1
  have kn := knm w1 hL1
  clear knm hL1
  go_wp2_with fail
  refine kn.mono ?_
  rintro e w2 ⟨rfl, hL2⟩
  have kd := krd w2 hL2
  clear krd kn hL2
  go_wp2_with fail
  refine kd.mono ?_
  rintro e w3 (⟨a, n, c, rfl, E⟩ | ⟨a, n, c, rfl, kdc⟩)
  · clear kd
    go_wp2
    (try simp only [Exit.inBlock, Exit.then])
    refine bodyPost_ret (Fr.results_tmp4 rfl _ _ _) rfl ?_
    exact E.out
  · clear kd
    go_wp2_with fail
    refine kdc.mono ?_
    rintro e w4 ⟨i, t, a2, n2, c2, e3, rfl, E⟩
    clear kdc
    go_wp2
    (try simp only [Exit.inBlock, Exit.then])
    refine bodyPost_ret (Fr.results_tmp4 rfl _ _ _) rfl ?_
    exact E.out

set_option maxHeartbeats 1000000 in
theorem sload_no {S : Nat → Prop} {w : World} {d : Value} {fs : Files} (g : Int) (hD : Dk S w d fs) (hg : ¬ (0 ≤ g ∧ g ≤ 999)) :
    Calls Tryd.prog 16 #[d, .int .i64 g] w fun e w' => e = .returned (.tuple #[.int .u64 0, .int .u64 0, .slice none 0 0, .int .i64 1]) ∧ Leaves S w d fs w' := by
  have kgv := sgiven_of hD
  have kgr := fun w' => group_no g w' hg
  obtain ⟨q, rfl⟩ := hD.shape
  generalize hLv : Leaves S w (.pointer (some ⟨q, 0, none⟩)) fs = LV at *
  clear hD hLv
  go_enter Tryd.func16, Tryd.ntmps16
  go_wp2_with fail
  refine kgv.mono ?_
  rintro e w1 ⟨rfl, hL1⟩
  have kr1 := kgr w1
  clear kgv kgr
  go_wp2_with fail
  refine kr1.mono ?_
  rintro e w1' ⟨rfl, hw1⟩
  rw [hw1]
  clear hw1 w1' kr1
  go_wp2
  (try simp only [Exit.inBlock, Exit.then])
  refine bodyPost_ret (Fr.results_tmp4 rfl _ _ _) rfl ?_
  exact ⟨rfl, hL1⟩
end Go.Proofs.YtoipjmjhplkibaaDoor

/- The contract of the law's awake: a snapshot that was saved is there behind a crash. -/
namespace Go.Proofs.YtoipjmjhplkibaaDoor
open Go.RowKit DiskMath
set_option maxRecDepth 100000
set_option linter.unusedSimpArgs false
set_option linter.unusedVariables false

theorem aw_save (b : List Nat) (hb : b.length ≤ 65536) : (saveF [] 4 b).2 = 0 := by
  unfold saveF
  rw [if_pos]
  have e : (dCut [] (nName 4) 0).1 = [] := rfl
  rw [e]
  unfold dAppend
  rw [if_neg (by rw [nName_may (by decide)]; simp), get_nil]
  dsimp only
  rw [if_neg (by simp; omega)]
theorem aw_load : loadT (crash (saveF [] 4 (Fr.snB 3 2 [97, 98])).1 []) 4 = (3, 2, [97, 98], 0) := by
  have h := save_get (fs := []) ⟨trivial, by decide, by simp⟩ (g := 4) (by decide) (b := Fr.snB 3 2 [97, 98]) (aw_save _ (by have := Fr.snB_len 3 2 [97, 98] (by decide) (by decide) (by decide); omega))
  have h2 := crash_whole (cuts := []) h rfl
  unfold loadT
  rw [h2]
  dsimp only
  unfold Fr.snTold
  rw [Fr.snDec_back 3 2 [97, 98] (by decide) (by decide) (by decide) (by decide)]

/-- A constant's two bytes. -/
theorem ab_bs (W w1 : World) (h : w1.heap[W.heap.size]? = (W.alloc (.cells #[.int .u8 97, .int .u8 98] 5 (2, 3))).heap[W.heap.size]?) : Fr.Bs w1.heap.size w1 (.slice (some ⟨W.heap.size, 0, none⟩) 2 2) [97, 98] := by
  have hk := h.trans (heap_alloc_new W _)
  refine ⟨some ⟨W.heap.size, 0, none⟩, 2, rfl, Nat.le_refl _, by unfold maxLen; omega, (fun e => by cases e), fun _ => ⟨W.heap.size, 0, rfl, (Array.getElem?_eq_some_iff.1 hk).1, fun j c hj => ?_⟩⟩
  have hj2 : j < 2 := by
    have := (List.getElem?_eq_some_iff.1 hj).1
    simpa using this
  have e : w1.cell? ⟨W.heap.size, 0 + j, none⟩ = (#[.int .u8 97, .int .u8 98] : Array Value)[0 + j]? := by simp [World.cell?, hk]
  rw [e]
  match j, hj2 with
  | 0, _ => obtain rfl : 97 = c := by simpa using hj
            rfl
  | 1, _ => obtain rfl : 98 = c := by simpa using hj
            rfl
theorem str_ab : Fr.str [97, 98] = ⟨#[97, 98]⟩ := rfl

set_option maxHeartbeats 2000000 in
theorem sawake_of (w : World) (hT : Tb w) : Calls Tryd.prog 5 #[] w fun e w' => e = .returned (.bool true) ∧ Below w.heap.size w w' := by
  have h0 := dnew_of w
  have h2w := hT.two
  have hc1 : ∀ w' : World, (convert 22 22 (.slice (some ⟨w'.heap.size, 0, none⟩) 2 2)).run Tryd.prog (w'.alloc (.cells #[.int .u8 97, .int .u8 98] 5)) = .ok (.slice (some ⟨w'.heap.size, 0, none⟩) 2 2) (w'.alloc (.cells #[.int .u8 97, .int .u8 98] 5 (2, 3))) := fun w' => Lib.run_convert_bytes_const w' 22 5 _ 2 2 Tryd.underlying22 Tryd.underlying5
  have ks : ∀ S W d, Below w.heap.size w W → Dk S W d [] → (∀ b, S b → w.heap.size ≤ b) → Calls Tryd.prog 14 #[d, .int .i64 4, .int .u64 3, .int .u64 2, .slice (some ⟨W.heap.size, 0, none⟩) 2 2] (W.alloc (.cells #[.int .u8 97, .int .u8 98] 5 (2, 3))) fun e w' => e = .returned (.int .i64 0) ∧ Leaves S W d (saveF [] 4 (Fr.snB 3 2 [97, 98])).1 w' := fun S W d hb hD hS => by
    have hbx := (Below.refl W.heap.size W).alloc (Nat.le_refl _) (.cells #[.int .u8 97, .int .u8 98] 5 (2, 3))
    have hns : ¬ S W.heap.size := fun h => by have := diskOf.lt hD _ h; omega
    have := ssave_of (S := S) 4 3 2 [97, 98] (some ⟨W.heap.size, 0, none⟩) 2 (hT.new (hb.trans (hbx.mono hb.size))) (diskOf.below hD hbx) (fun b hb => Nat.le_trans h2w (hS b hb)) (by decide) (by decide) (by decide) (by decide) (by decide) (by decide) (fun w1 hk => ab_bs W w1 (hk.block _ (by simp) hns))
    refine this.mono ?_
    rintro e w' ⟨he, hL⟩
    rw [aw_save _ (by have := Fr.snB_len 3 2 [97, 98] (by decide) (by decide) (by decide); omega)] at he
    exact ⟨he, Leaves.after hbx hL⟩
  have kc : ∀ S W d fs, Dk S W d fs → Calls Tryd.prog 15 #[d, .slice none 0 0] W fun e w' => e = .returned (.tuple #[]) ∧ Leaves S W d (crash fs []) w' := fun S W d fs hD =>
    diskOf.crash (.slice none 0 0) [] hD fun w'' hk => ⟨none, 0, rfl, (fun _ => rfl), fun i c hc => by simp at hc⟩
  have kl : ∀ S W d, Below w.heap.size w W → Dk S W d (crash (saveF [] 4 (Fr.snB 3 2 [97, 98])).1 []) → (∀ b, S b → w.heap.size ≤ b) → Calls Tryd.prog 16 #[d, .int .i64 4] W fun e w' => ∃ a n c, e = .returned (.tuple #[.int .u64 3, .int .u64 2, .slice a n c, .int .i64 0]) ∧ Hid (Fr.Bs w'.heap.size w' (.slice a n c) [97, 98]) ∧ Hid (Leaves S W d (crash (saveF [] 4 (Fr.snB 3 2 [97, 98])).1 []) w') := fun S W d hb hD hS => by
    have := sload_of 4 (hT.new hb) hD (fun b hb => Nat.le_trans h2w (hS b hb)) (by decide)
    rw [aw_load] at this
    refine this.mono ?_
    rintro e w' ⟨a, n, c, he, hB, hL⟩
    exact ⟨a, n, c, he, hB, hL⟩
  have kn := fun W => count_of 300 W (by decide)
  have e300 : chunks 300 = 2 := rfl
  rw [e300] at kn
  generalize (saveF [] 4 (Fr.snB 3 2 [97, 98])).1 = F at *
  go_enter Tryd.func5, Tryd.ntmps5
  go_wp2_with fail
  refine h0.mono ?_
  rintro e w1 ⟨S1, d, rfl, hD1, hS1, hb1⟩
  obtain ⟨q, rfl⟩ := hD1.shape
  have k1 := ks S1 w1 _ hb1 hD1 hS1
  clear ks h0
  go_wp2_with fail
  refine k1.mono ?_
  rintro e w2 ⟨rfl, S2, hD2, hs2, hk2⟩
  obtain ⟨hS2, hb2⟩ := fresh_step hS1 hb1.size hs2 hk2
  have hb02 := hb1.trans hb2
  have k2 := kc S2 _ _ _ hD2
  clear kc k1 hk2 hs2
  go_wp2_with fail
  refine k2.mono ?_
  rintro e w3 ⟨rfl, S3, hD3, hs3, hk3⟩
  obtain ⟨hS3, hb3⟩ := fresh_step hS2 hb02.size hs3 hk3
  have hb03 := hb02.trans hb3
  have k3 := kl S3 _ _ hb03 hD3 hS3
  clear kl k2 hk3 hs3
  go_wp2_with fail
  refine k3.mono ?_
  rintro e w4 ⟨a4, n4, c4, rfl, hB4, hL4⟩
  have hb04 : Below w.heap.size w w4 := by
    obtain ⟨S4, hD4, hs4, hk4⟩ := hL4.out
    exact hb03.trans (fresh_step hS3 hb03.size hs4 hk4).2
  have hst := Fr.str_of hB4.out (by decide)
  rw [str_ab] at hst
  have kn4 := kn w4
  clear k3 kn hL4 hB4
  go_wp2_with fail
  refine kn4.mono ?_
  rintro e w5 ⟨rfl, hw5⟩
  rw [hw5]
  clear kn4 hw5
  go_wp2
  go_ret
  exact ⟨rfl, hb04⟩
end Go.Proofs.YtoipjmjhplkibaaDoor


import Derived.Test.YtoipjmjhplkibabDoorP46
import Derived.Test.YtoipjmjhplkibabDoorP48
/- The contract of the program's Load. -/
namespace Go.Proofs.YtoipjmjhplkibabDoor
open Go.RowKit DiskMath
set_option maxRecDepth 100000
set_option linter.unusedSimpArgs false
set_option linter.unusedVariables false

theorem Kept.tb {S : Nat → Prop} {w w1 : World} (h : Kept S w w1) (hT : Tb w) (hS2 : ∀ b, S b → 2 ≤ b) : Tb w1 := hT.below (h.below (n := 2) hT.two hS2) (Nat.le_refl _)

/-- What Load tells: Index, Term, bytes, error. -/
def loadT (fs : Files) (g : Nat) : Nat × Nat × List Nat × Nat :=
  match get fs (gName g) with
  | none => (0, 0, [], 4)
  | some f => Fr.snTold f.data
/-- A loaded snapshot: what is told, where its bytes lie, and what the call leaves. -/
def LoadedT (S : Nat → Prop) (w : World) (d : Value) (fs : Files) (T : Nat × Nat × List Nat × Nat) (e : Ending) (w' : World) : Prop :=
  ∃ a n c, e = .returned (.tuple #[.int .u64 (T.1 : Int), .int .u64 (T.2.1 : Int), .slice a n c, .int .i64 (T.2.2.2 : Int)]) ∧ Fr.Bs w'.heap.size w' (.slice a n c) T.2.2.1 ∧ Leaves S w d fs w'

set_option maxHeartbeats 2000000 in
theorem sload_of {S : Nat → Prop} {w : World} {d : Value} {fs : Files} (g : Nat) (hT : Tb w) (hD : Dk S w d fs) (hS2 : ∀ b, S b → 2 ≤ b) (hg : g < 1000) :
    Calls Tryd.prog 4 #[d, .int .i64 (g : Int)] w (LoadedT S w d fs (loadT fs g)) := by
  letI := keepAll
  have hsd := diskOf.sound hD
  have hby := hD.byte
  have hgm : (gName g).size ≤ maxLen := by have := gName_size hg; unfold maxLen; omega
  have kgv := sgiven_of hD
  have kgr := fun w' => group_yes (g : Int) w' (by omega) (by omega)
  have knm : ∀ W, Leaves S w d fs W → Calls Tryd.prog 14 #[.int .i64 (g : Int)] W fun e w' => e = .returned (.string (gName g)) ∧ Leaves S w d fs w' := fun W hL => (sname_of g W (hL.tb hT hS2) hg).mono fun e w' h => ⟨h.1, hL.then h.2⟩
  have hlv : ∀ o, get fs (gName g) = o → loadT fs g = match o with | none => (0, 0, [], 4) | some f => Fr.snTold f.data := fun o h => by subst h; rfl
  have fin : ∀ W (T : Nat × Nat × List Nat × Nat) a n c, loadT fs g = T → Fr.Bs W.heap.size W (.slice a n c) T.2.2.1 → Leaves S w d fs W → Hid (LoadedT S w d fs (loadT fs g) (.returned (.tuple #[.int .u64 (T.1 : Int), .int .u64 (T.2.1 : Int), .slice a n c, .int .i64 (T.2.2.2 : Int)])) W) := fun W T a n c h1 h2 h3 => by
    rw [h1]
    exact ⟨a, n, c, rfl, h2, h3⟩
  have krd : ∀ W, Leaves S w d fs W → Calls Tryd.prog 13 #[d, .string (gName g)] W fun e w' => (∃ a n c, e = .returned (.tuple #[.slice a n c, .bool false]) ∧ Hid (LoadedT S w d fs (loadT fs g) (.returned (.tuple #[.int .u64 0, .int .u64 0, .slice none 0 0, .int .i64 4])) w')) ∨ (∃ a n c, e = .returned (.tuple #[.slice a n c, .bool true]) ∧
      Calls Tryd.prog 15 #[.slice a n c] w' fun e2 w2 => ∃ (i t : Nat) (a2 : Option Addr) (n2 c2 : Nat) (e3 : Nat), e2 = .returned (.tuple #[.int .u64 (i : Int), .int .u64 (t : Int), .slice a2 n2 c2, .int .i64 (e3 : Int)]) ∧ Hid (LoadedT S w d fs (loadT fs g) (.returned (.tuple #[.int .u64 (i : Int), .int .u64 (t : Int), .slice a2 n2 c2, .int .i64 (e3 : Int)])) w2)) := fun W hL => by
    obtain ⟨S1, h1, h2, h3⟩ := id hL
    refine (dread_of (gName g) hgm h1).mono ?_
    rintro e w' ⟨v, l, rfl, hO, hb, hl⟩
    have hL' := hL.then hb
    obtain ⟨a, c, rfl⟩ := hO.shape
    cases hgt : get fs (gName g) with
    | none => exact .inl ⟨_, _, _, rfl, fin w' (0, 0, [], 4) none 0 0 (hlv none hgt) (Fr.Bs.nil _ _) hL'⟩
    | some f =>
      rw [hgt] at hl
      obtain rfl : l = f.data := hl
      have hf := sound_get hsd hgt
      refine .inr ⟨_, _, _, rfl, ?_⟩
      have hOf : Fr.Own W.heap.size w' (.slice a f.data.length c) f.data := hO
      refine (Fr.sread_of w'.heap.size f.data _ w' (hL'.tb hT hS2).1 hOf.bs (hby f (get_mem hgt)) (Nat.le_refl _) (by omega)).mono ?_
      rintro e2 w2 ⟨a2, n2, c2, rfl, hB2, hb2⟩
      exact ⟨_, _, a2, n2, c2, _, rfl, fin w2 _ a2 n2 c2 (hlv (some f) hgt) hB2 (hL'.then hb2)⟩
  obtain ⟨q, rfl⟩ := hD.shape
  generalize gName g = G at *
  generalize LoadedT S w (.pointer (some ⟨q, 0, none⟩)) fs (loadT fs g) = T at *
  clear hD hT hsd hby hlv fin
  go_enter Tryd.func4, Tryd.ntmps4
  go_wp2_with fail
  refine kgv.mono ?_
  rintro e w1 ⟨rfl, hL1⟩
  have kr1 := kgr w1
  clear kgv kgr
  go_wp2_with fail
  refine kr1.mono ?_
  rintro e w1' ⟨rfl, hw1⟩
  rw [hw1]
  clear hw1 w1' kr1
  have kn := knm w1 hL1
  clear knm hL1
  go_wp2_with fail
  refine kn.mono ?_
  rintro e w2 ⟨rfl, hL2⟩
  have kd := krd w2 hL2
  clear krd kn hL2
  go_wp2_with fail
  refine kd.mono ?_
  rintro e w3 (⟨a, n, c, rfl, E⟩ | ⟨a, n, c, rfl, kdc⟩)
  · clear kd
    go_wp2
    (try simp only [Exit.inBlock, Exit.then])
    refine bodyPost_ret (Fr.results_tmp4 rfl _ _ _) rfl ?_
    exact E.out
  · clear kd
    go_wp2_with fail
    refine kdc.mono ?_
    rintro e w4 ⟨i, t, a2, n2, c2, e3, rfl, E⟩
    clear kdc
    go_wp2
    (try simp only [Exit.inBlock, Exit.then])
    refine bodyPost_ret (Fr.results_tmp4 rfl _ _ _) rfl ?_
    exact E.out

set_option maxHeartbeats 1000000 in
theorem sload_no {S : Nat → Prop} {w : World} {d : Value} {fs : Files} (g : Int) (hD : Dk S w d fs) (hg : ¬ (0 ≤ g ∧ g ≤ 999)) :
    Calls Tryd.prog 4 #[d, .int .i64 g] w fun e w' => e = .returned (.tuple #[.int .u64 0, .int .u64 0, .slice none 0 0, .int .i64 1]) ∧ Leaves S w d fs w' := by
  have kgv := sgiven_of hD
  have kgr := fun w' => group_no g w' hg
  obtain ⟨q, rfl⟩ := hD.shape
  generalize hLv : Leaves S w (.pointer (some ⟨q, 0, none⟩)) fs = LV at *
  clear hD hLv
  go_enter Tryd.func4, Tryd.ntmps4
  go_wp2_with fail
  refine kgv.mono ?_
  rintro e w1 ⟨rfl, hL1⟩
  have kr1 := kgr w1
  clear kgv kgr
  go_wp2_with fail
  refine kr1.mono ?_
  rintro e w1' ⟨rfl, hw1⟩
  rw [hw1]
  clear hw1 w1' kr1
  go_wp2
  (try simp only [Exit.inBlock, Exit.then])
  refine bodyPost_ret (Fr.results_tmp4 rfl _ _ _) rfl ?_
  exact ⟨rfl, hL1⟩
end Go.Proofs.YtoipjmjhplkibabDoor


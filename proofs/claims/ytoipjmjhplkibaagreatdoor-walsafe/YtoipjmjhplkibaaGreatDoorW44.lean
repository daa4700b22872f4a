import Derived.Test.YtoipjmjhplkibaaGreatDoorW38
import Derived.Deep.Upon
import Derived.Laws.CopyRow
/- The contract of slices.Delete of a row's end: what stays lies as it lay, the rest is cleared. -/
namespace Go.Proofs.YtoipjmjhplkibaaGreatDoor
open Go.RowKit WalMath DiskMath
set_option maxRecDepth 100000
set_option linter.unusedSimpArgs false
set_option linter.unusedVariables false

theorem infoSegm : (Tryz.prog.info? 81).map (fun i => (i.zero, i.size, i.bytes)) = some (some (.agg #[.int .i64 0, .slice none 0 0]), 2, 32) := by kernel_rfl
theorem zeroSegm (w : World) : (zeroValue 81).run Tryz.prog w = .ok (.agg #[.int .i64 0, .slice none 0 0]) w := by kernel_rfl

/-- What clear lays there. -/
def zs2 (n : Nat) : List Value := (Builtin.zeroCells #[.int .i64 0, .slice none 0 0] n).toList
theorem zs2_length (n : Nat) : (zs2 n).length = n * 2 := by simp [zs2, Builtin.zeroCells]
theorem zs2_one (n : Nat) : ∀ v ∈ zs2 n, v.oneCell' = true := by
  intro v hv
  simp only [zs2, Builtin.zeroCells, Array.toList_map, Array.toList_range, List.mem_map, List.mem_range] at hv
  obtain ⟨i, hi, rfl⟩ := hv
  have h2 : i % 2 = 0 ∨ i % 2 = 1 := by omega
  rcases h2 with h | h
  · simp [h]; rfl
  · simp [h]; rfl

/-- What Delete leaves: the row's beginning. -/
def DelT (w : World) (v : Value) (xs : List (Value × Value)) (e : Ending) (w' : World) : Prop :=
  ∃ v', e = .returned v' ∧ R2 w' 81 v' xs ∧ w.grownBy w' v.ownBlock ∧ v'.ownBlock = v.ownBlock

set_option maxHeartbeats 2000000 in
theorem delete_from (w : World) (v : Value) (xs : List (Value × Value)) (i : Nat) (h : R2 w 81 v xs) (hi : i < xs.length) (hsm : xs.length ≤ 1000) :
    Calls Tryz.prog 48 #[v, .int .i64 (i : Int), .int .i64 (xs.length : Int)] w (DelT w v (xs.take i)) := by
  obtain ⟨i0, hi0, hz0, hz1, hz2⟩ := info_parts infoSegm
  obtain ⟨hl2, ⟨_, r2⟩ | ⟨g, cap, cur, rfl, hg0, hbk, hle, hm, hcs, ht⟩⟩ := id h
  · omega
  obtain ⟨n, hn⟩ : ∃ n, Hid (n = xs.length) := ⟨_, rfl⟩
  rw [← hn.out] at hi hle ⊢
  have hcm : (cap : Int) ≤ 9223372036854775807 := by unfold maxLen at hm; omega
  have hni : (n : Int) ≤ (cap : Int) := by omega
  have hn0 : ¬ (n : Int) < 0 := by omega
  have hii : (i : Int) ≤ (n : Int) := by omega
  have hij : ¬ (i : Int) = (n : Int) := by omega
  have hik : ((i : Int) == (n : Int)) = false := by simp; omega
  have hil : ¬ (i : Int) < 0 := by omega
  have him : (i : Int) ≤ (cap : Int) := by omega
  have hgl := (Array.getElem?_eq_some_iff.1 hbk).1
  obtain ⟨a, ha⟩ : ∃ a, (if cap = n then some (⟨g, 0, none⟩ : Addr) else some ⟨g, n * 2, none⟩) = some a := by split <;> exact ⟨_, rfl⟩
  have hap : ∀ W ty c, (Builtin.append_ #[73, 73] ty #[.slice (some ⟨g, 0, none⟩) i cap, .slice (some a) 0 c]).run Tryz.prog W = .ok (.slice (some ⟨g, 0, none⟩) i cap) W := fun W ty c =>
    run_append_nothing W 73 73 ty 81 i0 Tryz.underlying73 hi0 _ _ _ (by omega) _ ⟨.inl ⟨_, Tryz.underlying73⟩, fun _ => rfl, by simp [Builtin.firstCells, loadCells, loadCellsFrom], by simp [Builtin.firstCells, loadCells, loadCellsFrom], by simp, by simp⟩
  have hsz : i * 2 + 0 + (zs2 (n - i)).length ≤ cur.size := by rw [zs2_length, hcs]; omega
  obtain ⟨NEW, hNEW⟩ : ∃ N : Array Value, Hid (N = (cur.toList.take (i * 2 + 0) ++ zs2 (n - i) ++ cur.toList.drop (i * 2 + 0 + (zs2 (n - i)).length)).toArray) := ⟨_, rfl⟩
  have hcl : ∀ k ty c, (Builtin.clear_ #[73] ty #[.slice (some ⟨g, i * 2, none⟩) (n - i) c]).run Tryz.prog (w.drewN k) = .ok (.tuple #[]) ((w.drewN k).setRow g NEW) := fun k ty c => by
    have hbk' : (w.drewN k).heap[g]? = some (.cells cur 81 (0, 0)) := ((below_drewN (Below.refl w.heap.size w) k).block g hgl).trans hbk
    have hst := run_storeCells_at (P := Tryz.prog) g (i * 2) 81 (zs2 (n - i)) 0 cur (w.drewN k) hbk' hsz (zs2_one _)
    rw [← hNEW.out] at hst
    obtain ⟨m, hm'⟩ : ∃ m, n - i = m + 1 := ⟨n - i - 1, by omega⟩
    unfold zs2 at hst
    rw [hm'] at hst ⊢
    have hzc : (Value.agg #[.int .i64 0, .slice none 0 0]).cells = #[.int .i64 0, .slice none 0 0] := rfl
    simp [Builtin.clear_, run_underlying Tryz.underlying73, zeroSegm, hzc, hst]
  have hfin : ∀ k, Hid (DelT w (.slice (some ⟨g, 0, none⟩) n cap) (xs.take i) (.returned (.slice (some ⟨g, 0, none⟩) i cap)) ((w.drewN k).setRow g NEW)) := fun k => by
    have hb := below_drewN (Below.refl w.heap.size w) k
    have hbk' : (w.drewN k).heap[g]? = some (.cells cur 81 (0, 0)) := (hb.block g hgl).trans hbk
    have hlen : (xs.take i).length = i := by rw [List.length_take, ← hn.out]; omega
    refine ⟨_, rfl, ?_, ⟨hb.os, hb.tape, hb.output, by rw [setRow_size]; exact hb.size, fun b hbl hne => ?_⟩, rfl⟩
    · unfold R2
      rw [hlen]
      refine ⟨by rw [c2_length, hlen], .inr ⟨g, cap, NEW, rfl, Nat.zero_le _, setRow_heap _ _ _ _ _ _ hbk', by omega, hm, ?_, ?_⟩⟩
      · rw [hNEW.out]
        have hz := zs2_length (n - i)
        simp only [List.size_toArray, List.length_append, List.length_take, List.length_drop, Array.length_toList, hz]
        rw [hcs]
        omega
      · rw [hNEW.out, ← c2_take, ← ht, ← hn.out]
        have : i * 2 ≤ cur.toList.length := by rw [Array.length_toList, hcs]; omega
        simp only [Nat.add_zero, List.append_assoc]
        rw [List.take_append_of_le_length (by rw [List.length_take]; omega), List.take_take, List.take_take]
        congr 1
        omega
    · rw [setRow_other _ _ _ _ (fun e => hne (by rw [e]; rfl))]
      exact hb.block b hbl
  generalize DelT w (.slice (some ⟨g, 0, none⟩) n cap) (xs.take i) = T at *
  clear hNEW ht h
  go_enter Tryz.func48, Tryz.ntmps48
  go_wp2
  go_quiet (fail)
  have E := hfin nq
  clear hfin
  go_wp2 <;> first | exact E.out | (go_ret; exact E.out)
end Go.Proofs.YtoipjmjhplkibaaGreatDoor


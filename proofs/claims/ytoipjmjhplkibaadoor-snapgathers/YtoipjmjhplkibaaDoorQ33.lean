import Derived.Test.YtoipjmjhplkibaaDoorQ29
import Derived.Test.YtoipjmjhplkibaaDoorQ30
import Derived.Test.YtoipjmjhplkibaaDoorQ32
import Derived.Test.YtoipjmjhplkibaaDoorQ15
import Derived.Test.YtoipjmjhplkibaaDoorQ16
import Derived.Laws.CopyOwn
/- The contracts of a basket's given and Put. -/
namespace Go.Proofs.YtoipjmjhplkibaaDoor
open Go.RowKit
set_option maxRecDepth 100000
set_option linter.unusedSimpArgs false
set_option linter.unusedVariables false

/-- Some bytes of a row. -/
theorem row_bs {w : World} {g : Nat} {B : List Nat} (h : w.heap[g]? = some (.cells (Fr.bc B).toArray 5 (0, 0))) (k m c : Nat) (hk : k + m ≤ B.length) (hc : m ≤ c) (hcm : c ≤ maxLen) : Fr.Bs w.heap.size w (.slice (some ⟨g, k, none⟩) m c) ((B.drop k).take m) := by
  have hl : ((B.drop k).take m).length = m := by rw [List.length_take, List.length_drop]; omega
  refine ⟨some ⟨g, k, none⟩, c, by rw [hl], by rw [hl]; exact hc, hcm, (fun e => by cases e), fun _ => ⟨g, k, rfl, (Array.getElem?_eq_some_iff.1 h).1, fun j x hj => ?_⟩⟩
  have hj' : j < m := by
    have := (List.getElem?_eq_some_iff.1 hj).1
    omega
  rw [List.getElem?_take_of_lt hj', List.getElem?_drop] at hj
  rw [Fr.cells_of_block h, List.getElem?_toArray]
  unfold Fr.bc
  rw [List.getElem?_map, hj]
  rfl

set_option maxHeartbeats 1000000 in
theorem place_row (g L i : Nat) (w : World) (hi : i < chunks L) (hL : L ≤ 32768) :
    Calls Tryd.prog 18 #[.slice (some ⟨g, 0, none⟩) L L, .int .i64 (i : Int)] w fun e w' => e = .returned (.slice (some ⟨g, i * 256, none⟩) (min 256 (L - i * 256)) (L - i * 256)) ∧ w' = w := by
  obtain ⟨hk1, hk2⟩ := chunks_le hi
  obtain ⟨k, hk⟩ : ∃ k, k = i * 256 := ⟨_, rfl⟩
  rw [← hk]
  have hkt : ((i : Int) * 256).toNat = k := by omega
  have hk0 : (0 : Int) ≤ (i : Int) * 256 := by omega
  have e1 : (i : Int) * 256 ≤ (L : Int) := by omega
  have hL2 : (L : Int) ≤ 32768 := by omega
  obtain ⟨M, hM⟩ : ∃ M, M = L - k := ⟨_, rfl⟩
  have hM0 : L - k = M := hM.symm
  rw [hM0]
  by_cases hck : L = k
  · have hMz : M = 0 := by omega
    have hLz : L = 0 := by
      by_cases h : 0 < L
      · have := hk2 h; omega
      · omega
    have hkz : k = 0 := by omega
    subst hMz
    subst hLz
    subst hkz
    obtain rfl : i = 0 := by omega
    clear hkt hk0 e1 hk1 hk2 hk hM hM0
    go_enter Tryd.func18, Tryd.ntmps18
    go_wp2
    go_ret
    exact ⟨rfl, rfl⟩
  · clear hk1 hk2 hk hM
    by_cases h256 : (256 : Int) < (M : Int)
    · obtain ⟨m, hm⟩ : ∃ m, m = min 256 M := ⟨_, rfl⟩
      rw [← hm]
      have hm2 : m = 256 := by omega
      subst hm2
      have f5 : 256 ≤ M := by omega
      clear hm
      go_enter Tryd.func18, Tryd.ntmps18
      go_wp2
      go_ret
      exact ⟨by first | rfl | (simp [Addr.add]; omega), rfl⟩
    · obtain ⟨m, hm⟩ : ∃ m, m = min 256 M := ⟨_, rfl⟩
      rw [← hm]
      have hm2 : m = M := by omega
      subst hm2
      clear hm
      go_enter Tryd.func18, Tryd.ntmps18
      go_wp2
      go_ret
      exact ⟨by first | rfl | (simp [Addr.add]; omega), rfl⟩

set_option maxHeartbeats 1000000 in
theorem equal_of (n₀ n₁ : Nat) (a b : List Nat) (va vb : Value) (w : World) (ha : Fr.Bs n₀ w va a) (hb : Fr.Bs n₁ w vb b) (ha8 : ∀ c ∈ a, c < 256) (hb8 : ∀ c ∈ b, c < 256) :
    Calls Tryd.prog 20 #[va, vb] w fun e w' => e = .returned (.bool (decide (a = b))) ∧ w' = w := by
  have s1 := Fr.str_of ha ha8
  have s2 := Fr.str_of hb hb8
  obtain ⟨a1, c1, rfl, -⟩ := id ha
  obtain ⟨a2, c2, rfl, -⟩ := id hb
  by_cases h : a = b
  · subst h
    obtain ⟨T, HT⟩ : ∃ T, Hid (T = decide (a = a)) := ⟨_, rfl⟩
    rw [← HT.out]
    have E : Hid (T = true) := by show _ = _; rw [HT.out]; simp
    clear ha hb HT
    go_enter Tryd.func20, Tryd.ntmps20
    go_wp2
    go_ret
    exact ⟨by rw [E.out]; first | rfl | simp, rfl⟩
  · have hst := Fr.str_ne ha8 hb8 h
    obtain ⟨T, HT⟩ : ∃ T, Hid (T = decide (a = b)) := ⟨_, rfl⟩
    rw [← HT.out]
    have E : Hid (T = false) := by show _ = _; rw [HT.out]; exact decide_eq_false h
    clear ha hb HT h
    go_enter Tryd.func20, Tryd.ntmps20
    go_wp2
    go_ret
    exact ⟨by rw [E.out]; first | rfl | simp_all, rfl⟩

/-- The facts of a basket that the walk reads. -/
theorem BkAt.cells {w : World} {q g1 g2 : Nat} {B : List Nat} {H : List Bool} (h : BkAt w q g1 g2 B H) : w.cell? ⟨q, 0, none⟩ = some (.slice (some ⟨g1, 0, none⟩) B.length B.length) ∧ w.cell? ⟨q, 1, none⟩ = some (.slice (some ⟨g2, 0, none⟩) H.length H.length) ∧ (∀ i b, H[i]? = some b → w.cell? ⟨g2, i, none⟩ = some (.bool b)) ∧ 0 < H.length ∧ H.length ≤ 200 := by
  have hl := h.len
  have hf := h.few
  refine ⟨by rw [Fr.cells_of_block h.box]; rfl, by rw [Fr.cells_of_block h.box]; rfl, fun i b hb => ?_, by rw [hl]; exact chunks_pos _, by rw [hl]; unfold chunks; omega⟩
  rw [Fr.cells_of_block h.has, List.getElem?_toArray, List.getElem?_map, hb]
  rfl
theorem bgiven_of {w : World} {q g1 g2 : Nat} {B : List Nat} {H : List Bool} (h : BkAt w q g1 g2 B H) : Calls Tryd.prog 19 #[.pointer (some ⟨q, 0, none⟩)] w fun e w' => e = .returned (.bool true) ∧ w' = w := by
  obtain ⟨c0, c1, -, h0, h2⟩ := h.cells
  have h0i : (0 : Int) < (H.length : Int) := by omega
  go_enter Tryd.func19, Tryd.ntmps19
  go_wp2
  go_ret
  exact ⟨by first | rfl | simp [h0i] | (simp; omega), rfl⟩
end Go.Proofs.YtoipjmjhplkibaaDoor


/- The contract of the law's own same, where kinds, bytes and items are of the same frames: true; nothing turns but the count of draws. -/
import Derived.Test.YtlminobaohkalaaDoorItems
import Derived.Deep.RegionHeld3
namespace Go.Proofs.YtlminobaohkalaaDoor
open Go.RowKit WireMath CrcMath FrameMath
set_option maxRecDepth 100000
set_option linter.unusedSimpArgs false

/-- A slice of byte slices, as it is read. -/
def Dv (w : World) (dv : Value) (ds : List (List Nat)) : Prop :=
  ∃ ao cap, dv = .slice ao ds.length cap ∧ ∀ (i : Nat) (d : List Nat), ds[i]? = some d → ∃ b off sv, ao = some ⟨b, off, none⟩ ∧ w.cell? ⟨b, off + i, none⟩ = some sv ∧ Bs w.heap.size w sv d
/-- A slice of items, as it is read. -/
def Iv (w : World) (ov : Value) (fs : List (Nat × List Nat)) : Prop :=
  ∃ ao cap, ov = .slice ao fs.length cap ∧ ∀ (i : Nat) (x : Nat × List Nat), fs[i]? = some x → ∃ b off sv, ao = some ⟨b, off, none⟩ ∧ w.cell? ⟨b, off + i * 2, none⟩ = some (.int .u8 (x.1 : Int)) ∧ w.cell? ⟨b, off + i * 2 + 1, none⟩ = some sv ∧ Bs w.heap.size w sv x.2

theorem row_cell {n₀ : Nat} {w : World} {e : TypeId} {size : Nat} {v : Value} {n : Nat} {xs : List Value} (h : w.ownsRow n₀ e size v n xs) (hn : 0 < n) : ∃ g cap, v = .slice (some ⟨g, 0, none⟩) n cap ∧ n ≤ cap ∧ ∀ (j : Nat) (u : Value), xs[j]? = some u → w.cell? ⟨g, 0 + j, none⟩ = some u := by
  obtain ⟨_, ⟨_, r2⟩ | ⟨g, cp, cur, r1, _, hbk, hle, _, _, ht⟩⟩ := h
  · omega
  · refine ⟨g, cp, r1, hle, fun j u hj => ?_⟩
    rw [cells_of_block hbk, Nat.zero_add]
    rw [← ht, List.getElem?_take] at hj
    split at hj
    · simpa using hj
    · cases hj

theorem Fs.dv {n₀ : Nat} {w : World} {kv dv : Value} {fs : List (Nat × List Nat)} (h : Fs n₀ w kv dv fs) : Dv w dv (fs.map Prod.snd) := by
  obtain ⟨-, ao, cap, e⟩ := h.shapes
  obtain ⟨cs, _, h2, _, h4⟩ := h
  refine ⟨ao, cap, by rw [List.length_map]; exact e, fun i d hd => ?_⟩
  have hi : i < fs.length := by
    have := (List.getElem?_eq_some_iff.1 hd).1
    simpa using this
  obtain ⟨g, cp, e2, _, hc⟩ := row_cell h2 (by omega)
  have hil : i < cs.length := by rw [h4.1, List.length_map]; exact hi
  have hsv := List.getElem?_eq_getElem hil
  rw [e] at e2
  simp only [Value.slice.injEq] at e2
  exact ⟨g, 0, cs[i], e2.1, hc i _ hsv, (h4.2 i _ d hsv hd).1⟩
theorem Is.iv {n₀ : Nat} {w : World} {ov : Value} {fs : List (Nat × List Nat)} (h : Is n₀ w ov fs) : Iv w ov fs := by
  obtain ⟨ao, cap, e⟩ := h.shape
  obtain ⟨cs, h2, h4⟩ := h
  refine ⟨ao, cap, e, fun i x hx => ?_⟩
  have hi : i < fs.length := (List.getElem?_eq_some_iff.1 hx).1
  obtain ⟨g, cp, e2, _, hc⟩ := row_cell h2 (by omega)
  have hil : i < cs.length := by rw [h4.1, List.length_map]; exact hi
  have hsv := List.getElem?_eq_getElem hil
  obtain ⟨c1, c2⟩ := icells_get fs cs i x _ hx hsv
  rw [e] at e2
  simp only [Value.slice.injEq] at e2
  rw [Nat.mul_comm] at c1 c2
  exact ⟨g, 0, cs[i], e2.1, hc _ _ c1, by rw [Nat.add_assoc]; exact hc _ _ c2, (h4.2 i _ x.2 hsv (by simp [hx])).1⟩
theorem Iv.took {w : World} {ao : Option Addr} {len cap : Nat} {fs : List (Nat × List Nat)} (h : Iv w (.slice ao len cap) fs) (j : Nat) (hj : j ≤ fs.length) : Iv w (.slice ao j cap) (fs.take j) := by
  obtain ⟨a', c', e, h2⟩ := h
  cases e
  refine ⟨ao, cap, by rw [List.length_take, Nat.min_eq_left hj], fun i x hx => ?_⟩
  rw [List.getElem?_take] at hx
  split at hx
  · exact h2 i x hx
  · cases hx

set_option maxHeartbeats 1000000 in
theorem same_of (n₀ : Nat) (fs : List (Nat × List Nat)) (kv dv ov : Value) (w : World) (hK : Bs n₀ w kv (fs.map Prod.fst)) (hD : Dv w dv (fs.map Prod.snd)) (hI : Iv w ov fs) (hb : ∀ x ∈ fs, ∀ c ∈ x.2, c < 256) (hlen : fs.length ≤ 1000000) :
    Calls Tryd.prog 15 #[kv, dv, ov] w fun e w' => e = .returned (.bool true) ∧ Below w.heap.size w w' := by
  obtain ⟨ak, ck, rfl, h2, h3, h4, h5⟩ := hK
  obtain ⟨ad, cd, rfl, hd⟩ := hD
  obtain ⟨ai, ci, rfl, hi⟩ := hI
  rw [List.length_map] at *
  rw [List.length_map]
  go_enter Tryd.func15, Tryd.ntmps15
  go_wp2
  go_loopg [7] fs.length (fun g s7 wr => ∃ i : Nat, i + g = fs.length ∧ s7 = .int .i64 (i : Int) ∧ ∃ k, wr = w.drewN k)
  case atStart => exact ⟨0, by simp, rfl, 0, rfl⟩
  case round =>
    obtain ⟨i, hil, rfl, kd, rfl⟩ := hrel
    by_cases hlt : i < fs.length
    · have hlti : (i : Int) < (fs.length : Int) := by omega
      have hx : fs[i]? = some fs[i] := List.getElem?_eq_getElem hlt
      obtain ⟨bk, ok, rfl, _, hck⟩ := h5 (fun h => by
        have := congrArg List.length h
        rw [List.length_map, List.length_nil] at this
        omega)
      have c1 := hck i fs[i].1 (by simp [hx])
      obtain ⟨bd, od, sv, rfl, c2, hBd⟩ := hd i fs[i].2 (by simp [hx])
      obtain ⟨bi, oi, sv2, rfl, c3, c4, hBi⟩ := hi i fs[i] hx
      have hbx := hb fs[i] (List.getElem_mem hlt)
      have y1 := fun k => str_of (hBd.drewN k) hbx
      have y2 := fun k => str_of (hBi.drewN k) hbx
      obtain ⟨a5, cap5, rfl, -⟩ := id hBd
      obtain ⟨a6, cap6, rfl, -⟩ := id hBi
      generalize fs[i] = x at *
      clear hck hd hi hb hx
      go_wp2
      go_region_held3 (fun w' => w'.cell? ⟨bk, ok + i, none⟩ = some (.int .u8 (x.1 : Int)) ∧ w'.cell? ⟨bd, od + i, none⟩ = some (.slice a5 x.2.length cap5) ∧ w'.cell? ⟨bi, oi + i * 2, none⟩ = some (.int .u8 (x.1 : Int)) ∧ w'.cell? ⟨bi, oi + i * 2 + 1, none⟩ = some (.slice a6 x.2.length cap6) ∧
          (convert 22 9 (.slice a5 x.2.length cap5)).run Tryd.prog w' = .ok (.string (str x.2)) w' ∧ (convert 22 9 (.slice a6 x.2.length cap6)).run Tryd.prog w' = .ok (.string (str x.2)) w')
        (exact ⟨c1, c2, c3, c4, y1 (kd + 1), y2 (kd + 1)⟩) (fail)
      go_wp2
      go_roundg (gk - 1)
      case measure => omega
      case rel => exact ⟨i + 1, by omega, by go_num, kd + 1, rfl⟩
    · have hlti : ¬ (i : Int) < (fs.length : Int) := by omega
      go_wp2
      go_ret
      exact ⟨rfl, below_drewN (Below.refl _ _) _⟩
end Go.Proofs.YtlminobaohkalaaDoor

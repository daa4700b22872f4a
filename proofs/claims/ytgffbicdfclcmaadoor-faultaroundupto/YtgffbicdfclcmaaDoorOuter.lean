/- The contracts of outermost and innermost over any chain of faults: the result, and that what lay in memory before stays as it was. -/
import Derived.Test.YtgffbicdfclcmaaDoorAs
namespace Go.Proofs.YtgffbicdfclcmaaDoor
open Go.RowKit Go.Extern.Stop Go.Stop Go.Extern
set_option maxRecDepth 100000

theorem below_asWorld (T : Nat) (t : Addr) (w : World) : Below w.heap.size w (asWorld T t w) :=
  (((Below.refl _ _).alloc (Nat.le_refl _) _).alloc (by simp) _).alloc (by simp; omega) _
theorem size_asWorld (T : Nat) (t : Addr) (w : World) : (asWorld T t w).heap.size = w.heap.size + 3 := by simp [asWorld]

theorem outermost_nil (w : World) : Calls Tryd.prog 26 #[.nilIface] w fun e w' => e = .returned (.pointer none) ∧ Below w.heap.size w w' := by
  go_enter Tryd.func26, Tryd.ntmps26
  go_wp2_with (go_at_call 38; refine (As_nil _ _).mono ?_; rintro e w' ⟨rfl, rfl⟩)
  go_ret
  exact ⟨rfl, (Below.refl _ _).alloc (Nat.le_refl _) _⟩

theorem outermost_code (n : Int) (w : World) (hg : Door w) : Calls Tryd.prog 26 #[.iface 30 (.int .i64 n)] w fun e w' => e = .returned (.pointer none) ∧ Below w.heap.size w w' := by
  have hb1 := (Below.refl w.heap.size w).alloc (Nat.le_refl _) (.cells #[.pointer none] 53)
  have hA := As_code_fault n ⟨w.heap.size, 0, none⟩ (w.alloc (.cells #[.pointer none] 53)) (hg.below hb1)
  clear hg
  go_enter Tryd.func26, Tryd.ntmps26
  go_wp2_with (go_at_call 38; refine hA.mono ?_; rintro e w' ⟨rfl, rfl⟩)
  go_ret
  exact ⟨rfl, hb1.trans ((below_asWorld _ _ _).mono (by simp))⟩

theorem outermost_fault (b : Nat) (w : World) (hg : Door w) : Calls Tryd.prog 26 #[.iface 53 (.pointer (some ⟨b, 0, none⟩))] w fun e w' => e = .returned (.pointer (some ⟨b, 0, none⟩)) ∧ Below w.heap.size w w' := by
  have hb1 := (Below.refl w.heap.size w).alloc (Nat.le_refl _) (.cells #[.pointer none] 53)
  have hA := As_fault ⟨b, 0, none⟩ ⟨w.heap.size, 0, none⟩ (.pointer none) (w.alloc (.cells #[.pointer none] 53)) (hg.below hb1) (by simp) (by simp)
  have hb2 : Below w.heap.size w (((asWorld 78 ⟨w.heap.size, 0, none⟩ (w.alloc (.cells #[.pointer none] 53))).alloc (.cells #[.pointer (some ⟨b, 0, none⟩)] 53)).setCell ⟨w.heap.size, 0, none⟩ (.pointer (some ⟨b, 0, none⟩))) :=
    ((hb1.trans ((below_asWorld 78 ⟨w.heap.size, 0, none⟩ _).mono (by simp))).alloc (by rw [size_asWorld]; simp; omega) _).setCell (by simp) _
  have hc : (((asWorld 78 ⟨w.heap.size, 0, none⟩ (w.alloc (.cells #[.pointer none] 53))).alloc (.cells #[.pointer (some ⟨b, 0, none⟩)] 53)).setCell ⟨w.heap.size, 0, none⟩ (.pointer (some ⟨b, 0, none⟩))).cell? ⟨w.heap.size, 0, none⟩ = some (.pointer (some ⟨b, 0, none⟩)) := by
    refine World.cell?_setCell_same' _ _ _ ?_
    rw [World.cell?_alloc_lt _ _ _ (by rw [size_asWorld]; simp; omega), (below_asWorld 78 ⟨w.heap.size, 0, none⟩ (w.alloc (.cells #[.pointer none] 53))).cell (by simp)]
    simp
  clear hg hb1
  generalize hW : ((asWorld 78 ⟨w.heap.size, 0, none⟩ (w.alloc (.cells #[.pointer none] 53))).alloc (.cells #[.pointer (some ⟨b, 0, none⟩)] 53)).setCell ⟨w.heap.size, 0, none⟩ (.pointer (some ⟨b, 0, none⟩)) = W at hA hb2 hc
  clear hW
  go_enter Tryd.func26, Tryd.ntmps26
  go_wp2_with (go_at_call 38; refine hA.mono ?_; rintro e w' ⟨rfl, rfl⟩)
  go_ret
  exact ⟨rfl, hb2⟩

set_option maxHeartbeats 4000000 in
theorem as_code (l : List (ByteArray × Int)) (t : Option Int) (v : Value) (B : Nat) (tt : Addr) (old : Value) (w : World) (h : IsErr w v l t) (hv : v ≠ .nilIface)
    (hB : w.cell? ⟨B, 0, none⟩ = some (.pointer (some tt))) (ht0 : w.cell? tt = some old) (hf0 : w.frozen? tt = false) :
    Calls Tryd.prog 44 #[v, .iface 79 (.pointer (some tt)), .agg #[.pointer (some ⟨1, 79, none⟩), .pointer (some ⟨B, 0, none⟩), .int .u64 150], .iface 82 (.agg #[.pointer (some ⟨1, 30, none⟩)])] w fun ev w' =>
      (t = none ∧ ev = .returned (.bool false) ∧ w' = w.alloc (.cells #[.pointer (some ⟨1, 79, none⟩), .pointer (some ⟨B, 0, none⟩), .int .u64 150] 92)) ∨
      (∃ m, t = some m ∧ ev = .returned (.bool true) ∧ w' = ((w.alloc (.cells #[.pointer (some ⟨1, 79, none⟩), .pointer (some ⟨B, 0, none⟩), .int .u64 150] 92)).alloc (.cells #[.int .i64 m] 30)).setCell tt (.int .i64 m)) := by
  have hb1 := (Below.refl w.heap.size w).alloc (Nat.le_refl _) (.cells #[.pointer (some ⟨1, 79, none⟩), .pointer (some ⟨B, 0, none⟩), .int .u64 150] 92)
  have lt_of : ∀ {a : Addr} {x : Value}, w.cell? a = some x → a.block < w.heap.size := fun {a x} h => by
    rcases Nat.lt_or_ge a.block w.heap.size with h' | h'
    · exact h'
    · simp [World.cell?, Array.getElem?_eq_none h'] at h
  have h1 : IsErr (w.alloc (.cells #[.pointer (some ⟨1, 79, none⟩), .pointer (some ⟨B, 0, none⟩), .int .u64 150] 92)) v l t := h.below hb1
  have hB1 : (w.alloc (.cells #[.pointer (some ⟨1, 79, none⟩), .pointer (some ⟨B, 0, none⟩), .int .u64 150] 92)).cell? ⟨B, 0, none⟩ = some (.pointer (some tt)) := (hb1.cell (p := ⟨B, 0, none⟩) (lt_of hB)).trans hB
  have ht1 : (w.alloc (.cells #[.pointer (some ⟨1, 79, none⟩), .pointer (some ⟨B, 0, none⟩), .int .u64 150] 92)).cell? tt = some old := (hb1.cell (p := tt) (lt_of ht0)).trans ht0
  have hf1 : (w.alloc (.cells #[.pointer (some ⟨1, 79, none⟩), .pointer (some ⟨B, 0, none⟩), .int .u64 150] 92)).frozen? tt = false := (hb1.frozen (p := tt) (lt_of ht0)).trans hf0
  have hbx : (w.alloc (.cells #[.pointer (some ⟨1, 79, none⟩), .pointer (some ⟨B, 0, none⟩), .int .u64 150] 92)).heap[w.heap.size]? = some (.cells #[.pointer (some ⟨1, 79, none⟩), .pointer (some ⟨B, 0, none⟩), .int .u64 150] 92 (0, 0)) := by
    show (w.heap.push _)[w.heap.size]? = _
    exact Array.getElem?_push_size
  have hs1 : (w.alloc (.cells #[.pointer (some ⟨1, 79, none⟩), .pointer (some ⟨B, 0, none⟩), .int .u64 150] 92)).heap.size = w.heap.size + 1 := by simp
  have htl := lt_of ht0
  clear h hB ht0 hf0 lt_of hb1
  go_enter Tryd.func44, Tryd.ntmps44
  go_wp2
  generalize hW : w.alloc (.cells #[.pointer (some ⟨1, 79, none⟩), .pointer (some ⟨B, 0, none⟩), .int .u64 150] 92) = W at h1 hB1 ht1 hf1 hbx hs1 ⊢
  have HW : Aside (w.alloc (.cells #[.pointer (some ⟨1, 79, none⟩), .pointer (some ⟨B, 0, none⟩), .int .u64 150] 92) = W) := hW
  clear hW
  have x0 : W.cell? ⟨w.heap.size, 0, none⟩ = some (.pointer (some ⟨1, 79, none⟩)) := by rw [cells_of_block hbx]; rfl
  have x1 : W.cell? ⟨w.heap.size, 1, none⟩ = some (.pointer (some ⟨B, 0, none⟩)) := by rw [cells_of_block hbx]; rfl
  have x2 : W.cell? ⟨w.heap.size, 2, none⟩ = some (.int .u64 150) := by rw [cells_of_block hbx]; rfl
  clear hbx
  go_loopg [0] (l.length + 1) (fun k s0 wr => wr = W ∧ ∃ l' : List (ByteArray × Int), k = l'.length + 1 ∧ IsErr W s0 l' t ∧ s0 ≠ .nilIface)
  case atStart => exact ⟨rfl, l, rfl, h1, hv⟩
  case round =>
    obtain ⟨rfl, l', rfl, he, hne⟩ := hrel
    clear h1
    cases l' with
    | nil =>
      obtain ⟨ht, rfl⟩ | ⟨m, ht, rfl⟩ := he.ends
      · exact absurd rfl hne
      have el := elemV79 ⟨B, 0, none⟩ tt wr hB1
      have st := set30 tt ⟨wr.heap.size, 0, none⟩ m old (wr.alloc (.cells #[.int .i64 m] 30)) (by simp)
        (by rw [World.cell?_alloc_lt _ _ tt (by omega)]; exact ht1)
        (by rw [World.frozen?_alloc_old _ _ tt (by omega)]; exact hf1)
      have HT : Aside (t = some m) := ht
      clear he ht hs1 htl
      go_wp2
      go_ret
      exact .inr ⟨m, HT.out, rfl, by rw [HW.out]⟩
    | cons c r =>
      obtain ⟨b, inner, h1, h2, h3⟩ := he
      obtain rfl := h1
      have c2 : wr.cell? ⟨b, 2, none⟩ = some inner := by rw [cells_of_block h2]; rfl
      clear h2
      obtain rfl | ⟨u, x, rfl⟩ := h3.shape
      · have hf : Aside (t = none) := h3.of_nil.2
        clear h3
        go_wp2_with (first | (go_at_call 67; refine (fUnwrap _ _ _ c2).mono ?_; rintro e w' ⟨rfl, rfl⟩) | go_in)
        go_ret
        exact .inl ⟨hf.out, rfl, HW.out.symm⟩
      · go_wp2_with (first | (go_at_call 67; refine (fUnwrap _ _ _ c2).mono ?_; rintro e w' ⟨rfl, rfl⟩) | go_in)
        go_roundg (r.length + 1)
        case measure => simp
        case rel => exact ⟨rfl, r, rfl, h3, by simp⟩
end Go.Proofs.YtgffbicdfclcmaaDoor

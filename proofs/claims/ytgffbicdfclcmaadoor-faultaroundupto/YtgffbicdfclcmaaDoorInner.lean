/- The contracts of errors.As at a target that is an Errno, of innermost, and of First over any chain of faults: the result, and that what lay in memory before stays as it was. -/
import Derived.Test.YtgffbicdfclcmaaDoorOuter
namespace Go.Proofs.YtgffbicdfclcmaaDoor
open Go.RowKit Go.Extern.Stop Go.Stop Go.Extern
set_option maxRecDepth 100000

set_option maxHeartbeats 4000000 in
theorem As_code (l : List (ByteArray × Int)) (t : Option Int) (v : Value) (T : Nat) (w : World) (hg : Door w) (h : IsErr w v l t)
    (ht0 : w.cell? ⟨T, 0, none⟩ = some (.int .i64 0)) (hf0 : w.frozen? ⟨T, 0, none⟩ = false) :
    Calls Tryd.prog 38 #[v, .iface 79 (.pointer (some ⟨T, 0, none⟩))] w fun ev w' =>
      ev = .returned (.bool t.isSome) ∧ w'.cell? ⟨T, 0, none⟩ = some (.int .i64 (t.getD 0)) ∧ Below T w w' := by
  obtain rfl | ⟨u, x, rfl⟩ := h.shape
  · obtain ⟨_, rfl⟩ := h.of_nil
    exact (As_nil _ _).mono fun e w' ⟨he, hw⟩ => by subst he hw; exact ⟨rfl, ht0, Below.refl _ _⟩
  have htl : T < w.heap.size := by
    rcases Nat.lt_or_ge T w.heap.size with h' | h'
    · exact h'
    · simp [World.cell?, Array.getElem?_eq_none h'] at ht0
  have hlt := hg.lt
  have n8 := isNil79 ⟨w.heap.size, 0, none⟩ ⟨T, 0, none⟩ ((w.alloc (.cells #[.pointer (some ⟨T, 0, none⟩)] 79)).alloc (.cells #[.pointer (some ⟨1, 79, none⟩), .pointer (some ⟨w.heap.size, 0, none⟩), .int .u64 150] 92)) (by simp)
  have hb2 : Below w.heap.size w ((w.alloc (.cells #[.pointer (some ⟨T, 0, none⟩)] 79)).alloc (.cells #[.pointer (some ⟨1, 79, none⟩), .pointer (some ⟨w.heap.size, 0, none⟩), .int .u64 150] 92)) := ((Below.refl _ _).alloc (Nat.le_refl _) _).alloc (by simp) _
  have hg2 : ((w.alloc (.cells #[.pointer (some ⟨T, 0, none⟩)] 79)).alloc (.cells #[.pointer (some ⟨1, 79, none⟩), .pointer (some ⟨w.heap.size, 0, none⟩), .int .u64 150] 92)).cell? ⟨0, 0, none⟩ = some (.iface 82 (.agg #[.pointer (some ⟨1, 25, none⟩)])) := hg.below hb2
  have hA := as_code l t _ w.heap.size ⟨T, 0, none⟩ (.int .i64 0) ((w.alloc (.cells #[.pointer (some ⟨T, 0, none⟩)] 79)).alloc (.cells #[.pointer (some ⟨1, 79, none⟩), .pointer (some ⟨w.heap.size, 0, none⟩), .int .u64 150] 92)) (h.below hb2) (by simp) (by simp)
    ((hb2.cell (p := ⟨T, 0, none⟩) htl).trans ht0) ((hb2.frozen (p := ⟨T, 0, none⟩) htl).trans hf0)
  have hs2 : ((w.alloc (.cells #[.pointer (some ⟨T, 0, none⟩)] 79)).alloc (.cells #[.pointer (some ⟨1, 79, none⟩), .pointer (some ⟨w.heap.size, 0, none⟩), .int .u64 150] 92)).heap.size = w.heap.size + 2 := by simp
  have ht2 := (hb2.cell (p := ⟨T, 0, none⟩) htl).trans ht0
  have hA' : Calls Tryd.prog 44 #[.iface u x, .iface 79 (.pointer (some ⟨T, 0, none⟩)), .agg #[.pointer (some ⟨1, 79, none⟩), .pointer (some ⟨w.heap.size, 0, none⟩), .int .u64 150], .iface 82 (.agg #[.pointer (some ⟨1, 30, none⟩)])] ((w.alloc (.cells #[.pointer (some ⟨T, 0, none⟩)] 79)).alloc (.cells #[.pointer (some ⟨1, 79, none⟩), .pointer (some ⟨w.heap.size, 0, none⟩), .int .u64 150] 92)) fun ev w' =>
      ev = .returned (.bool t.isSome) ∧ w'.cell? ⟨T, 0, none⟩ = some (.int .i64 (t.getD 0)) ∧ Below T w w' := by
    refine hA.mono fun ev w' hw => ?_
    obtain ⟨rfl, rfl, rfl⟩ | ⟨m, rfl, rfl, rfl⟩ := hw
    · exact ⟨rfl, by rw [World.cell?_alloc_lt _ _ ⟨T, 0, none⟩ (by rw [hs2]; show T < _; omega)]; exact ht2, (hb2.mono (by omega)).alloc (by rw [hs2]; omega) _⟩
    · have hb3 := hb2.mono (Nat.le_of_lt htl)
      refine ⟨rfl, ?_, ((hb3.alloc (by rw [hs2]; omega) _).alloc (by simp; omega) _).setCell (p := ⟨T, 0, none⟩) (Nat.le_refl _) _⟩
      refine World.cell?_setCell_same' _ _ _ ?_
      rw [World.cell?_alloc_lt _ _ ⟨T, 0, none⟩ (by simp; omega), World.cell?_alloc_lt _ _ ⟨T, 0, none⟩ (by rw [hs2]; show T < _; omega), ht2]
      rfl
  clear hg h ht0 hf0 hA hb2 hs2 ht2 htl hlt
  go_enter Tryd.func38, Tryd.ntmps38
  go_wp2_with (first | (go_at_call 44; refine hA'.mono ?_; rintro e w' ⟨rfl, hc, hb⟩) | go_in)
  go_ret
  exact ⟨rfl, hc, hb⟩

theorem innermost_of (l : List (ByteArray × Int)) (t : Option Int) (v : Value) (w : World) (hg : Door w) (h : IsErr w v l t) :
    Calls Tryd.prog 31 #[v] w fun e w' => e = .returned (.tuple #[.int .i64 (t.getD 0), .bool t.isSome]) ∧ Below w.heap.size w w' := by
  have hb1 := (Below.refl w.heap.size w).alloc (Nat.le_refl _) (.cells #[.int .i64 0] 30)
  have hA := As_code l t v w.heap.size (w.alloc (.cells #[.int .i64 0] 30)) (hg.below hb1) (h.below hb1) (by simp) (by simp)
  clear hg h
  go_enter Tryd.func31, Tryd.ntmps31
  go_wp2_with (go_at_call 38; refine hA.mono ?_; rintro e w' ⟨rfl, hc, hb⟩)
  go_ret2
  exact ⟨rfl, hb1.trans hb⟩

/-- The outermost code that is not 0. -/
def firstI : List (ByteArray × Int) → Option Int → Int
  | [], t => t.getD 0
  | c :: r, t => if c.2 = 0 then firstI r t else c.2

/-- What outermost hands back: none, or the block of the first fault of a chain. -/
def FAt (w : World) (pv : Value) : List (ByteArray × Int) → Option Int → Prop
  | [], _ => pv = .pointer none
  | c :: r, t => ∃ b inner, pv = .pointer (some ⟨b, 0, none⟩) ∧ w.heap[b]? = some (.cells #[.string c.1, .int .i64 c.2, inner, .bool true] 56 (0, 0)) ∧ IsErr w inner r t

theorem outermost_of {l : List (ByteArray × Int)} {t : Option Int} {v : Value} (w : World) (hg : Door w) (h : IsErr w v l t) :
    Calls Tryd.prog 26 #[v] w fun e w' => ∃ pv, e = .returned pv ∧ FAt w' pv l t ∧ Below w.heap.size w w' := by
  cases l with
  | nil =>
    obtain ⟨_, rfl⟩ | ⟨m, _, rfl⟩ := h.ends
    · exact (outermost_nil w).mono fun e w' ⟨he, hb⟩ => ⟨_, he, rfl, hb⟩
    · exact (outermost_code m w hg).mono fun e w' ⟨he, hb⟩ => ⟨_, he, rfl, hb⟩
  | cons c r =>
    have h' := h
    obtain ⟨b, inner, rfl, h2, h3⟩ := h
    refine (outermost_fault b w hg).mono fun e w' ⟨he, hb⟩ => ⟨_, he, ?_, hb⟩
    obtain ⟨b', inner', e1, h2', h3'⟩ := h'.below hb
    cases e1
    exact ⟨b, inner', rfl, h2', h3'⟩

theorem ret_i64 {a b : Int} (h : a = b) : Ending.returned (.int .i64 a) = .returned (.int .i64 b) := by rw [h]

set_option maxHeartbeats 1000000 in
theorem first_of (l : List (ByteArray × Int)) (t : Option Int) (v : Value) (w : World) (hg : Door w) (h : IsErr w v l t) :
    Calls Tryd.prog 18 #[v] w fun e w' => e = .returned (.int .i64 (firstI l t)) ∧ Below w.heap.size w w' := by
  have h1 := trim_of w h
  have h2 := outermost_of w hg h
  go_enter Tryd.func18, Tryd.ntmps18
  go_wp2_with (first | (go_at_call 27; refine h1.mono ?_; rintro e wq ⟨rfl, rfl⟩) | (go_at_call 26; refine h2.mono ?_; rintro e w' ⟨pv, rfl, hF, hb⟩))
  clear h1 h2
  go_loopg [3] l.length (fun k s3 wr => ∃ l' : List (ByteArray × Int), k = l'.length ∧ FAt wr s3 l' t ∧ Below wq.heap.size wq wr ∧ Aside (firstI l t = firstI l' t))
  case atStart => exact ⟨l, rfl, hF, hb, rfl⟩
  case round =>
    clear hF hb
    obtain ⟨l', rfl, hF, hb, A⟩ := hrel
    have hg' := hg.below hb
    cases l' with
    | nil =>
      obtain rfl := hF
      have hi := innermost_of l t v wr hg' (h.below hb)
      clear hg hg' h
      go_wp2_with (go_at_call 31; refine hi.mono ?_; rintro e w' ⟨rfl, hb'⟩)
      go_ret
      exact ⟨ret_i64 A.out.symm, hb.trans (hb'.mono hb.size)⟩
    | cons c r =>
      obtain ⟨b, inner, rfl, hbl, h3⟩ := hF
      have c1 : wr.cell? ⟨b, 1, none⟩ = some (.int .i64 c.2) := by rw [cells_of_block hbl]; rfl
      have c2 : wr.cell? ⟨b, 2, none⟩ = some inner := by rw [cells_of_block hbl]; rfl
      clear hbl
      have ho := outermost_of wr hg' h3
      by_cases hc : c.2 = 0
      · have hc' : (c.2 == 0) = true := by simpa using hc
        have A' : Aside (firstI l t = firstI r t) := by show _ = _; rw [A.out, firstI, if_pos hc]
        clear hc A hg hg' h3 h
        go_wp2_with (go_at_call 26; refine ho.mono ?_; rintro e w' ⟨pv, rfl, hF, hb'⟩)
        go_roundg r.length
        case measure => simp
        case rel => exact ⟨r, rfl, hF, hb.trans (hb'.mono hb.size), A'⟩
      · have hc' : (c.2 == 0) = false := by simpa using hc
        have A' : Aside (firstI l t = c.2) := by show _ = _; rw [A.out, firstI, if_neg hc]
        clear hc A hg hg' h3 h
        go_wp2_with (go_at_call 26; refine ho.mono ?_; rintro e w' ⟨pv, rfl, hF, hb'⟩)
        go_ret
        exact ⟨ret_i64 A'.out.symm, hb⟩
end Go.Proofs.YtgffbicdfclcmaaDoor

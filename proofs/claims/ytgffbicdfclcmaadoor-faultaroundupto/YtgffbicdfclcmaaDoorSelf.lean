/- The contracts of errors.Unwrap of a fault and of errors.Is of an error and itself, and of a fault and its inner error: the result, and that memory stays as it was. -/
import Derived.Test.YtgffbicdfclcmaaDoorIs
namespace Go.Proofs.YtgffbicdfclcmaaDoor
open Go.RowKit Go.Extern.Stop Go.Stop Go.Extern
set_option maxRecDepth 100000

theorem comp53i : (Tryd.prog.info? 53).map (·.comparable) = some true := by kernel_rfl
theorem size56 : (Tryd.prog.info? 56).map (·.size) = some 4 := by kernel_rfl

theorem eqlFF_same (a : Addr) (w : World) : (binOp .eql 25 (.iface 53 (.pointer (some a))) (.iface 53 (.pointer (some a)))).run Tryd.prog w = .ok (.bool true) w := by
  obtain ⟨i, hi, hcmp⟩ := Option.map_eq_some_iff.1 comp53i
  obtain ⟨j, hj, hjs⟩ := Option.map_eq_some_iff.1 size56
  exact run_eql_iface_ptr_same (P := Tryd.prog) w a Tryd.underlying25 Tryd.underlying53 hi hcmp hj

theorem eqlFF_other (a b : Nat) (ca cb : Array Value) (ta tb : TypeId) (w : World) (hne : a ≠ b) (ha : w.heap[a]? = some (.cells ca ta (0, 0))) (hb : w.heap[b]? = some (.cells cb tb (0, 0))) :
    (binOp .eql 25 (.iface 53 (.pointer (some ⟨a, 0, none⟩))) (.iface 53 (.pointer (some ⟨b, 0, none⟩)))).run Tryd.prog w = .ok (.bool false) w := by
  obtain ⟨i, hi, hcmp⟩ := Option.map_eq_some_iff.1 comp53i
  obtain ⟨j, hj, hjs⟩ := Option.map_eq_some_iff.1 size56
  exact run_eql_iface_ptr_other (P := Tryd.prog) w Tryd.underlying25 Tryd.underlying53 hi hcmp hj (by rw [hjs]; decide) (fun e => hne (by cases e; rfl)) ha hb

theorem unwrap_of (b : Nat) (x : Value) (w : World) (h2 : w.cell? ⟨b, 2, none⟩ = some x) : Calls Tryd.prog 21 #[.iface 53 (.pointer (some ⟨b, 0, none⟩))] w fun e w' => e = .returned x ∧ w' = w := by
  go_enter Tryd.func21, Tryd.ntmps21
  go_wp2_with (go_at_call 67; refine (fUnwrap _ _ _ h2).mono ?_; rintro e w' ⟨rfl, rfl⟩)
  go_ret
  exact ⟨rfl, rfl⟩

set_option maxHeartbeats 1000000 in
theorem Is_same (b : Nat) (w : World) : Calls Tryd.prog 17 #[.iface 53 (.pointer (some ⟨b, 0, none⟩)), .iface 53 (.pointer (some ⟨b, 0, none⟩))] w fun e w' => e = .returned (.bool true) ∧ w' = w := by
  have heq := eqlFF_same ⟨b, 0, none⟩ w
  go_enter Tryd.func17, Tryd.ntmps17
  go_wp2
  refine wp_loop_rounds 1 ?_
  rw [rounds_succ]
  go_wp2
  go_ret
  exact ⟨rfl, rfl⟩

set_option maxHeartbeats 1000000 in
theorem Is_wrap (a b : Nat) (c : Int) (s : ByteArray) (cb : Array Value) (tb : TypeId) (w : World) (hne : a ≠ b) (ha : w.heap[a]? = some (.cells #[.string s, .int .i64 c, .iface 53 (.pointer (some ⟨b, 0, none⟩)), .bool true] 56 (0, 0))) (hb : w.heap[b]? = some (.cells cb tb (0, 0))) :
    Calls Tryd.prog 17 #[.iface 53 (.pointer (some ⟨a, 0, none⟩)), .iface 53 (.pointer (some ⟨b, 0, none⟩))] w fun e w' => e = .returned (.bool true) ∧ w' = w := by
  have heq := eqlFF_same ⟨b, 0, none⟩ w
  have hot := eqlFF_other a b _ cb 56 tb w hne ha hb
  have c1 : w.cell? ⟨a, 1, none⟩ = some (.int .i64 c) := by rw [cells_of_block ha]; rfl
  have c2 : w.cell? ⟨a, 2, none⟩ = some (.iface 53 (.pointer (some ⟨b, 0, none⟩))) := by rw [cells_of_block ha]; rfl
  clear ha hb
  go_enter Tryd.func17, Tryd.ntmps17
  go_wp2
  refine wp_loop_rounds 2 ?_
  rw [rounds_succ]
  go_wp2
  rw [rounds_succ]
  go_wp2
  go_ret
  exact ⟨rfl, rfl⟩

/-- errors.Is of an error and itself. -/
theorem Is_self {l : List (ByteArray × Int)} {t : Option Int} {v : Value} (w : World) (h : IsErr w v l t) (hv : v ≠ .nilIface) : Calls Tryd.prog 17 #[v, v] w fun e w' => e = .returned (.bool true) ∧ w' = w := by
  cases l with
  | nil =>
    obtain ⟨_, rfl⟩ | ⟨m, _, rfl⟩ := h.ends
    · exact absurd rfl hv
    · have := Is_code [] (some m) (.iface 30 (.int .i64 m)) m w rfl
      rwa [show hasB [] (some m) m = true by simp [hasB]] at this
  | cons c r =>
    obtain ⟨b, inner, rfl, _, _⟩ := h
    exact Is_same b w

/-- errors.Is of a fault and the error within. -/
theorem Is_inner {l : List (ByteArray × Int)} {t : Option Int} {v : Value} (s : ByteArray) (c : Int) (a : Nat) (w : World) (h : IsErr w v l t) (hv : v ≠ .nilIface) (ha : w.heap[a]? = some (.cells #[.string s, .int .i64 c, v, .bool true] 56 (0, 0)))
    (hout : ∀ b, v = .iface 53 (.pointer (some ⟨b, 0, none⟩)) → a ≠ b) : Calls Tryd.prog 17 #[.iface 53 (.pointer (some ⟨a, 0, none⟩)), v] w fun e w' => e = .returned (.bool true) ∧ w' = w := by
  cases l with
  | nil =>
    obtain ⟨_, rfl⟩ | ⟨m, _, rfl⟩ := h.ends
    · exact absurd rfl hv
    · have := Is_code [(s, c)] (some m) (.iface 53 (.pointer (some ⟨a, 0, none⟩))) m w ⟨a, _, rfl, ha, rfl⟩
      rwa [show hasB [(s, c)] (some m) m = true by simp [hasB]] at this
  | cons d r =>
    obtain ⟨b, inner, rfl, hb, _⟩ := h
    exact Is_wrap a b c s _ 56 w (hout b rfl) ha hb
end Go.Proofs.YtgffbicdfclcmaaDoor

/- The contracts of New, trim, (*fault).Is, (*fault).Unwrap and errors.Is at a code, over any chain of faults: the result, and that memory stays as it was (New: one new block). -/
import Derived.Test.YtgffbicdfclcmaaDoorBase
import Derived.Test.YtgffbicdfclcmaaDoorExts
import Derived.Deep.LoopGhost
namespace Go.Proofs.YtgffbicdfclcmaaDoor
open Go.RowKit Go.Extern.Stop Go.Stop Go.Extern
set_option maxRecDepth 100000

theorem IsErr.shape {w : World} {v : Value} {l : List (ByteArray × Int)} {t : Option Int} (h : IsErr w v l t) : v = .nilIface ∨ ∃ u x, v = .iface u x := by
  match l, t, h with
  | [], none, h => exact .inl h
  | [], some n, h => exact .inr ⟨_, _, h⟩
  | _ :: _, _, ⟨_, _, h1, _, _⟩ => exact .inr ⟨_, _, h1⟩

theorem known_of {v : Value} {l : List (ByteArray × Int)} {t : Option Int} (w : World) (h : IsErr w v l t) : Calls Tryd.prog 35 #[v] w fun e w' => e = .returned (.bool true) ∧ w' = w := by
  match l, t, h with
  | [], none, h => obtain rfl := h; exact known_nil w
  | [], some n, h => obtain rfl := h; exact known_code n w
  | _ :: _, _, ⟨b, inner, h1, h2, _⟩ =>
    obtain rfl := h1
    exact known_fault b true w (by rw [cells_of_block h2]; rfl)

theorem new_of (op : ByteArray) (c : Int) {v : Value} {l : List (ByteArray × Int)} {t : Option Int} (w : World) (h : IsErr w v l t) :
    Calls Tryd.prog 20 #[.string op, .int .i64 c, v] w fun e w' => e = .returned (.iface 53 (.pointer (some ⟨w.heap.size, 0, none⟩))) ∧ w' = w.alloc (.cells #[.string op, .int .i64 c, v, .bool true] 56) := by
  have hk := known_of w h
  obtain rfl | ⟨u, x, rfl⟩ := h.shape
  all_goals
    clear h
    go_enter Tryd.func20, Tryd.ntmps20
    go_wp2_with (go_at_call 35; refine hk.mono ?_; rintro e w' ⟨rfl, rfl⟩)
    go_ret
    exact ⟨rfl, rfl⟩

theorem trim_of {v : Value} {l : List (ByteArray × Int)} {t : Option Int} (w : World) (h : IsErr w v l t) :
    Calls Tryd.prog 27 #[v] w fun e w' => e = .returned v ∧ w' = w := by
  go_enter Tryd.func27, Tryd.ntmps27
  go_wp2_with (go_at_call 35; refine (known_of _ h).mono ?_; rintro e w' ⟨rfl, rfl⟩)
  go_ret
  exact ⟨rfl, rfl⟩

theorem fIs_code (b : Nat) (c n : Int) (w : World) (h1 : w.cell? ⟨b, 1, none⟩ = some (.int .i64 c)) : Calls Tryd.prog 66 #[.pointer (some ⟨b, 0, none⟩), .iface 30 (.int .i64 n)] w fun e w' => e = .returned (.bool (n == c)) ∧ w' = w := by
  go_enter Tryd.func66, Tryd.ntmps66
  go_wp2
  go_ret
  exact ⟨rfl, rfl⟩

theorem fIs_fault (b : Nat) (c : Int) (x : Value) (w : World) (h1 : w.cell? ⟨b, 1, none⟩ = some (.int .i64 c)) : Calls Tryd.prog 66 #[.pointer (some ⟨b, 0, none⟩), .iface 53 x] w fun e w' => e = .returned (.bool false) ∧ w' = w := by
  go_enter Tryd.func66, Tryd.ntmps66
  go_wp2
  go_ret
  exact ⟨rfl, rfl⟩

theorem fUnwrap (b : Nat) (x : Value) (w : World) (h2 : w.cell? ⟨b, 2, none⟩ = some x) : Calls Tryd.prog 67 #[.pointer (some ⟨b, 0, none⟩)] w fun e w' => e = .returned x ∧ w' = w := by
  go_enter Tryd.func67, Tryd.ntmps67
  go_wp2
  go_ret
  exact ⟨rfl, rfl⟩

theorem IsErr.ends {w : World} {v : Value} {t : Option Int} (h : IsErr w v [] t) : (t = none ∧ v = .nilIface) ∨ ∃ m, t = some m ∧ v = .iface 30 (.int .i64 m) := by
  cases t with
  | none => exact .inl ⟨rfl, h⟩
  | some m => exact .inr ⟨m, rfl, h⟩
theorem IsErr.of_nil {w : World} {l : List (ByteArray × Int)} {t : Option Int} (h : IsErr w .nilIface l t) : l = [] ∧ t = none := by
  match l, t, h with
  | [], none, _ => exact ⟨rfl, rfl⟩

theorem ret_bool {a b : Bool} (h : a = b) : Ending.returned (.bool a) = .returned (.bool b) := by rw [h]

/-- Which codes are within. -/
def hasB (l : List (ByteArray × Int)) (t : Option Int) (n : Int) : Bool := l.any (fun c => n == c.2) || t == some n

theorem hasB_end (m n : Int) : hasB [] (some m) n = (m == n) := by simp [hasB]
theorem hasB_cons_no {c : ByteArray × Int} {l : List (ByteArray × Int)} {t : Option Int} {n : Int} (h : (n == c.2) = false) : hasB (c :: l) t n = hasB l t n := by
  simp [hasB, h]
theorem hasB_cons_yes {c : ByteArray × Int} {l : List (ByteArray × Int)} {t : Option Int} {n : Int} (h : (n == c.2) = true) : hasB (c :: l) t n = true := by
  simp [hasB, h]

set_option maxHeartbeats 1000000 in
theorem is_code (l : List (ByteArray × Int)) (t : Option Int) (v : Value) (n : Int) (w : World) (h : IsErr w v l t) (hv : v ≠ .nilIface) :
    Calls Tryd.prog 34 #[v, .iface 30 (.int .i64 n), .bool true] w fun e w' => e = .returned (.bool (hasB l t n)) ∧ w' = w := by
  go_enter Tryd.func34, Tryd.ntmps34
  go_wp2
  go_loopg [0] (l.length + 1) (fun k s0 wr => wr = w ∧ ∃ l' : List (ByteArray × Int), k = l'.length + 1 ∧ IsErr w s0 l' t ∧ s0 ≠ .nilIface ∧ Aside (hasB l t n = hasB l' t n))
  case atStart => exact ⟨rfl, l, rfl, h, hv, rfl⟩
  case round =>
    obtain ⟨rfl, l', rfl, he, hne, A⟩ := hrel
    cases l' with
    | nil =>
      obtain ⟨ht, rfl⟩ | ⟨m, ht, rfl⟩ := he.ends
      · exact absurd rfl hne
      have hA : Aside (hasB l t n = (m == n)) := by show _ = _; rw [A.out, ht]; exact hasB_end m n
      clear A ht h he
      cases hmn : (m == n)
      all_goals
        go_wp2
        go_ret
        exact ⟨ret_bool (hA.out.trans hmn).symm, rfl⟩
    | cons c r =>
      obtain ⟨b, inner, h1, h2, h3⟩ := he
      obtain rfl := h1
      have c1 : wr.cell? ⟨b, 1, none⟩ = some (.int .i64 c.2) := by rw [cells_of_block h2]; rfl
      have c2 : wr.cell? ⟨b, 2, none⟩ = some inner := by rw [cells_of_block h2]; rfl
      clear h2 h
      cases hcn : (n == c.2)
      · have hA : Aside (hasB l t n = hasB r t n) := by show _ = _; rw [A.out]; exact hasB_cons_no hcn
        clear A
        obtain rfl | ⟨u, x, rfl⟩ := h3.shape
        · have hf : Aside (hasB l t n = false) := by obtain ⟨e1, e2⟩ := h3.of_nil; show _ = _; rw [hA.out, e1, e2]; rfl
          clear hA h3
          go_wp2_with (first | (go_at_call 66; refine (fIs_code _ _ _ _ c1).mono ?_; rintro e w' ⟨rfl, rfl⟩) | (go_at_call 67; refine (fUnwrap _ _ _ c2).mono ?_; rintro e w' ⟨rfl, rfl⟩))
          go_ret
          exact ⟨ret_bool hf.out.symm, rfl⟩
        · go_wp2_with (first | (go_at_call 66; refine (fIs_code _ _ _ _ c1).mono ?_; rintro e w' ⟨rfl, rfl⟩) | (go_at_call 67; refine (fUnwrap _ _ _ c2).mono ?_; rintro e w' ⟨rfl, rfl⟩))
          go_roundg (r.length + 1)
          case measure => simp
          case rel => exact ⟨rfl, r, rfl, h3, by simp, hA⟩
      · have hA : Aside (hasB l t n = true) := by show _ = _; rw [A.out]; exact hasB_cons_yes hcn
        clear A
        go_wp2_with (first | (go_at_call 66; refine (fIs_code _ _ _ _ c1).mono ?_; rintro e w' ⟨rfl, rfl⟩) | (go_at_call 67; refine (fUnwrap _ _ _ c2).mono ?_; rintro e w' ⟨rfl, rfl⟩))
        go_ret
        exact ⟨ret_bool hA.out.symm, rfl⟩

/-- errors.Is(v, a code). -/
theorem Is_code (l : List (ByteArray × Int)) (t : Option Int) (v : Value) (n : Int) (w : World) (h : IsErr w v l t) :
    Calls Tryd.prog 17 #[v, .iface 30 (.int .i64 n)] w fun e w' => e = .returned (.bool (hasB l t n)) ∧ w' = w := by
  obtain rfl | ⟨u, x, rfl⟩ := h.shape
  · have hf : hasB l t n = false := by obtain ⟨e1, e2⟩ := h.of_nil; rw [e1, e2]; rfl
    rw [hf]; clear h hf
    go_enter Tryd.func17, Tryd.ntmps17
    go_wp2
    go_ret
    exact ⟨rfl, rfl⟩
  · have hk := is_code l t _ n w h (by simp)
    clear h
    go_enter Tryd.func17, Tryd.ntmps17
    go_wp2_with (first | (go_at_call 34; refine hk.mono ?_; rintro e w' ⟨rfl, rfl⟩) | go_in)
    go_ret
    exact ⟨rfl, rfl⟩

theorem has_of (l : List (ByteArray × Int)) (t : Option Int) (v : Value) (n : Int) (w : World) (h : IsErr w v l t) :
    Calls Tryd.prog 15 #[v, .int .i64 n] w fun e w' => e = .returned (.bool (hasB l t n)) ∧ w' = w := by
  have h1 := trim_of w h
  have h2 := Is_code l t v n w h
  clear h
  go_enter Tryd.func15, Tryd.ntmps15
  go_wp2_with (first | (go_at_call 27; refine h1.mono ?_; rintro e w' ⟨rfl, rfl⟩) | (go_at_call 17; refine h2.mono ?_; rintro e w' ⟨rfl, rfl⟩))
  go_ret
  exact ⟨rfl, rfl⟩
end Go.Proofs.YtgffbicdfclcmaaDoor

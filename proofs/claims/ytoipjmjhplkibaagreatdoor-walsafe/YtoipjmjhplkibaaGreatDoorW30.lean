import Derived.Test.YtoipjmjhplkibaaGreatDoorW18
import Derived.Test.YtoipjmjhplkibaaGreatDoorW03
import Derived.Deep.RegionWith
/- Files as they are read of a disk, by rising numbers: sorting and thinning them leaves them. -/
namespace Go.Proofs.YtoipjmjhplkibaaGreatDoor
open Go.RowKit
set_option maxRecDepth 100000
set_option linter.unusedSimpArgs false
set_option linter.unusedVariables false

/-- Files as they are read: numbers and bytes. -/
def Nf (w : World) (v : Value) (l : List (Nat × List Nat)) : Prop :=
  ∃ ao cap, v = .slice ao l.length cap ∧ ∀ (i : Nat) (x : Nat × List Nat), l[i]? = some x → ∃ b off sv, ao = some ⟨b, off, none⟩ ∧ w.cell? ⟨b, off + i * 2, none⟩ = some (.int .i64 (x.1 : Int)) ∧ w.cell? ⟨b, off + i * 2 + 1, none⟩ = some sv ∧ @Bs keepAll w.heap.size w sv x.2 ∧ (sv = .slice none 0 0 ∨ ∃ g n c, sv = .slice (some ⟨g, 0, none⟩) n c)
theorem Nf.below {w w' : World} {v : Value} {l : List (Nat × List Nat)} (h : Nf w v l) (hb : Below w.heap.size w w') : Nf w' v l := by
  obtain ⟨ao, cap, e, h2⟩ := h
  refine ⟨ao, cap, e, fun i x hx => ?_⟩
  obtain ⟨b, off, sv, r1, r2, r3, r4⟩ := h2 i x hx
  letI := keepAll
  exact ⟨b, off, sv, r1, (hb.cell (p := ⟨b, off + i * 2, none⟩) (World.block_lt_of_cell? w _ r2)).trans r2, (hb.cell (p := ⟨b, off + i * 2 + 1, none⟩) (World.block_lt_of_cell? w _ r3)).trans r3, (r4.1.below hb).mono hb.size, r4.2⟩

theorem cmp_of (x y : Nat) (u v : Value) (w : World) : Calls Tryz.prog 113 #[.agg #[.int .i64 (x : Int), u], .agg #[.int .i64 (y : Int), v]] w fun e w' => e = .returned (.int .i64 (Lib.compareInt (x : Int) (y : Int))) ∧ Below w.heap.size w w' := by
  have hc := Tryz.cmp_Compare_int (x : Int) (y : Int)
  have hb := ((Below.refl w.heap.size w).alloc (Nat.le_refl _) (.cells #[.int .i64 (x : Int), u] 137)).alloc (by simp) (.cells #[.int .i64 (y : Int), v] 137)
  go_enter Tryz.func113, Tryz.ntmps113
  go_wp2_with fail
  refine (hc _).mono ?_
  rintro e w1 ⟨rfl, hw1⟩
  rw [hw1]
  clear hw1 w1 hc
  go_wp2
  go_ret
  exact ⟨rfl, hb⟩
theorem eqf_of (x y : Nat) (u v : Value) (w : World) (hne : x ≠ y) : Calls Tryz.prog 116 #[.agg #[.int .i64 (x : Int), u], .agg #[.int .i64 (y : Int), v]] w fun e w' => e = .returned (.bool false) ∧ Below w.heap.size w w' := by
  have hb := ((Below.refl w.heap.size w).alloc (Nat.le_refl _) (.cells #[.int .i64 (x : Int), u] 137)).alloc (by simp) (.cells #[.int .i64 (y : Int), v] 137)
  have h1 : ((x : Int) == (y : Int)) = false := by simp; omega
  have h2 : ¬ (x : Int) = (y : Int) := by omega
  go_enter Tryz.func116, Tryz.ntmps116
  go_wp2
  go_ret
  exact ⟨rfl, hb⟩

@[go_sem] theorem dec_pos_i (i : Nat) (h : 0 < i) : decide ((0 : Int) < (i : Int)) = true := by simp; omega
@[go_sem] theorem dec_pos_n (i : Nat) (h : 0 < i) : decide (0 < i) = true := by simp; omega

/-- Numbers rise. -/
def Rising (l : List (Nat × List Nat)) : Prop := ∀ (i : Nat) (x y : Nat × List Nat), l[i]? = some x → l[i + 1]? = some y → x.1 < y.1

set_option maxHeartbeats 1000000 in
theorem insertion_of (l : List (Nat × List Nat)) (v : Value) (w : World) (hN : Nf w v l) (hr : Rising l) (hl : l.length ≤ 1000) :
    Calls Tryz.prog 155 #[v, .int .i64 0, .int .i64 (l.length : Int), .func (.func 113) #[] #[]] w fun e w' => e = .returned (.tuple #[]) ∧ Below w.heap.size w w' := by
  obtain ⟨ao, cap, rfl, hc⟩ := id hN
  go_enter Tryz.func155, Tryz.ntmps155
  go_wp2
  go_loopg [8] (l.length + 1) (fun g s8 wr => ∃ i : Nat, i + g = l.length + 2 ∧ 1 ≤ i ∧ s8 = .int .i64 (i : Int) ∧ Below w.heap.size w wr)
  case atStart => exact ⟨1, by omega, by omega, rfl, Below.refl _ _⟩
  case round =>
    obtain ⟨i, hi, hi1, rfl, hbr⟩ := hrel
    by_cases hlt : i < l.length
    · have hlti : (i : Int) < (l.length : Int) := by omega
      obtain ⟨j, hij⟩ : ∃ j, Hid (i = j + 1) := ⟨i - 1, by show _ = _; omega⟩
      have hjl : j < l.length := by have := hij.out; omega
      have hx := List.getElem?_eq_getElem hlt
      have hy := List.getElem?_eq_getElem hjl
      have hlt2 := hr j _ _ hy (by rw [← hij.out]; exact hx)
      generalize l[i] = x at *
      generalize l[j] = y at *
      obtain ⟨b, off, sx, rfl, x1, x2, x3⟩ := hc i x hx
      obtain ⟨b', off', sy, e, y1, y2, y3⟩ := hc j y hy
      cases e
      have hS : ∀ w', Below w.heap.size w w' → w'.cell? ⟨b, off + i * 2, none⟩ = some (.int .i64 (x.1 : Int)) ∧ w'.cell? ⟨b, off + i * 2 + 1, none⟩ = some sx ∧ w'.cell? ⟨b, off + j * 2, none⟩ = some (.int .i64 (y.1 : Int)) ∧ w'.cell? ⟨b, off + j * 2 + 1, none⟩ = some sy := fun w' hb =>
        ⟨(hb.cell (p := ⟨b, off + i * 2, none⟩) (World.block_lt_of_cell? w _ x1)).trans x1, (hb.cell (p := ⟨b, off + i * 2 + 1, none⟩) (World.block_lt_of_cell? w _ x2)).trans x2, (hb.cell (p := ⟨b, off + j * 2, none⟩) (World.block_lt_of_cell? w _ y1)).trans y1, (hb.cell (p := ⟨b, off + j * 2 + 1, none⟩) (World.block_lt_of_cell? w _ y2)).trans y2⟩
      have hjli : (j : Int) < (l.length : Int) := by omega
      have hi0 : 0 < i := by omega
      have q1 : IntKind.i64.wrap ((i : Int) - 1) = (j : Int) := by
        have := hij.out
        rw [show (i : Int) - 1 = (j : Int) by omega]
        exact IntWalk.i64_in _ (by omega)
      have q2 : IntKind.i64.wrap ((i : Int) + 1) = ((i + 1 : Nat) : Int) := by
        rw [show (i : Int) + 1 = ((i + 1 : Nat) : Int) by omega]
        exact IntWalk.i64_in _ (by omega)
      have hcmp := cmp_of x.1 y.1 sx sy wr.drew
      have hdr : Below w.heap.size wr wr.drew := (Below.refl _ _).drew
      have hg : Lib.compareInt (x.1 : Int) (y.1 : Int) = 1 := by unfold Lib.compareInt; rw [if_neg (by omega), if_pos (by omega)]
      rw [hg] at hcmp
      have y0 := hS _ (hbr.trans hdr)
      clear x1 x2 x3 y1 y2 y3 hx hy hc hN hr hg hlt2
      obtain ⟨g0, hg0⟩ : ∃ g0, Hid (g0 = gk) := ⟨gk, rfl⟩
      go_wp2
      go_loopg [9] 0 (fun g s9 wr2 => s9 = .int .i64 (i : Int) ∧ wr2 = wr)
      case atStart => exact ⟨rfl, rfl⟩
      case round =>
        obtain ⟨rfl, rfl⟩ := hrel
        go_wp2
        go_region_held3 (fun w' => w'.cell? ⟨b, off + i * 2, none⟩ = some (.int .i64 (x.1 : Int)) ∧ w'.cell? ⟨b, off + i * 2 + 1, none⟩ = some sx ∧ w'.cell? ⟨b, off + j * 2, none⟩ = some (.int .i64 (y.1 : Int)) ∧ w'.cell? ⟨b, off + j * 2 + 1, none⟩ = some sy)
          (first | exact y0 | exact y2 | go_keep)
          ((go_at_call 113; refine hcmp.mono ?_; rintro e w2 ⟨rfl, hb2⟩; have hb02 := hbr.trans (hdr.trans (hb2.mono hbr.size)); have y2 := hS _ hb02))
        clear hS hcmp y0 y2
        go_wp2
        go_roundg (g0 - 1)
        case measure => have := hg0.out; omega
        case rel => have := hg0.out; exact ⟨i + 1, by omega, by omega, rfl, hb02⟩
    · have hlti : ¬ (i : Int) < (l.length : Int) := by omega
      go_wp2
      go_end0
      exact ⟨rfl, hbr⟩

set_option maxHeartbeats 1000000 in
theorem stable_of (l : List (Nat × List Nat)) (v : Value) (w : World) (hN : Nf w v l) (hr : Rising l) (hl : l.length < 20) :
    Calls Tryz.prog 137 #[v, .int .i64 (l.length : Int), .func (.func 113) #[] #[]] w fun e w' => e = .returned (.tuple #[]) ∧ Below w.heap.size w w' := by
  have hi := insertion_of l v w hN hr (by omega)
  obtain ⟨ao, cap, rfl, -⟩ := hN
  have h1 : ¬ (20 : Int) ≤ (l.length : Int) := by omega
  have h2 : ¬ (20 : Int) < (l.length : Int) := by omega
  go_enter Tryz.func137, Tryz.ntmps137
  go_wp2
  go_loopg [7, 8] 0 (fun g s7 s8 wr => s7 = .int .i64 0 ∧ s8 = .int .i64 20 ∧ wr = w)
  case atStart => exact ⟨rfl, rfl, rfl⟩
  case round =>
    obtain ⟨rfl, rfl, rfl⟩ := hrel
    go_wp2_with fail
    refine hi.mono ?_
    rintro e w1 ⟨rfl, hb⟩
    go_wp2
    go_loopg [6] 0 (fun g s6 wr2 => s6 = .int .i64 20 ∧ wr2 = w1)
    case atStart => exact ⟨rfl, rfl⟩
    case round =>
      obtain ⟨rfl, rfl⟩ := hrel
      go_wp2
      go_end0
      exact ⟨rfl, hb⟩

set_option maxHeartbeats 1000000 in
theorem sortStable_of (l : List (Nat × List Nat)) (v : Value) (w : World) (hN : Nf w v l) (hr : Rising l) (hl : l.length < 20) :
    Calls Tryz.prog 112 #[v, .func (.func 113) #[] #[]] w fun e w' => e = .returned (.tuple #[]) ∧ Below w.heap.size w w' := by
  have hi := stable_of l v w hN hr hl
  obtain ⟨ao, cap, rfl, -⟩ := hN
  go_enter Tryz.func112, Tryz.ntmps112
  go_wp2_with fail
  refine hi.mono ?_
  rintro e w1 ⟨rfl, hb⟩
  go_wp2
  go_end0
  exact ⟨rfl, hb⟩

set_option maxHeartbeats 1000000 in
theorem compact_of (l : List (Nat × List Nat)) (v : Value) (w : World) (hN : Nf w v l) (hr : Rising l) (hl : l.length ≤ 1000) :
    Calls Tryz.prog 115 #[v, .func (.func 116) #[] #[]] w fun e w' => e = .returned v ∧ Below w.heap.size w w' := by
  obtain ⟨ao, cap, rfl, hc⟩ := id hN
  by_cases h2 : l.length < 2
  · have h2i : (l.length : Int) < 2 := by omega
    go_enter Tryz.func115, Tryz.ntmps115
    go_wp2
    go_ret
    exact ⟨rfl, Below.refl _ _⟩
  have h2i : ¬ (l.length : Int) < 2 := by omega
  go_enter Tryz.func115, Tryz.ntmps115
  go_wp2
  go_loopg [5] (l.length + 1) (fun g s5 wr => ∃ i : Nat, i + g = l.length + 2 ∧ 1 ≤ i ∧ s5 = .int .i64 (i : Int) ∧ Below w.heap.size w wr)
  case atStart => exact ⟨1, by omega, by omega, rfl, Below.refl _ _⟩
  case round =>
    obtain ⟨i, hi, hi1, rfl, hbr⟩ := hrel
    by_cases hlt : i < l.length
    · have hlti : (i : Int) < (l.length : Int) := by omega
      obtain ⟨j, hij⟩ : ∃ j, Hid (i = j + 1) := ⟨i - 1, by show _ = _; omega⟩
      have hjl : j < l.length := by have := hij.out; omega
      have hx := List.getElem?_eq_getElem hlt
      have hy := List.getElem?_eq_getElem hjl
      have hlt2 := hr j _ _ hy (by rw [← hij.out]; exact hx)
      generalize l[i] = x at *
      generalize l[j] = y at *
      obtain ⟨b, off, sx, rfl, x1, x2, x3⟩ := hc i x hx
      obtain ⟨b', off', sy, e, y1, y2, y3⟩ := hc j y hy
      cases e
      have hS : ∀ w', Below w.heap.size w w' → w'.cell? ⟨b, off + i * 2, none⟩ = some (.int .i64 (x.1 : Int)) ∧ w'.cell? ⟨b, off + i * 2 + 1, none⟩ = some sx ∧ w'.cell? ⟨b, off + j * 2, none⟩ = some (.int .i64 (y.1 : Int)) ∧ w'.cell? ⟨b, off + j * 2 + 1, none⟩ = some sy := fun w' hb =>
        ⟨(hb.cell (p := ⟨b, off + i * 2, none⟩) (World.block_lt_of_cell? w _ x1)).trans x1, (hb.cell (p := ⟨b, off + i * 2 + 1, none⟩) (World.block_lt_of_cell? w _ x2)).trans x2, (hb.cell (p := ⟨b, off + j * 2, none⟩) (World.block_lt_of_cell? w _ y1)).trans y1, (hb.cell (p := ⟨b, off + j * 2 + 1, none⟩) (World.block_lt_of_cell? w _ y2)).trans y2⟩
      have hjli : (j : Int) < (l.length : Int) := by omega
      have q1 : IntKind.i64.wrap ((i : Int) - 1) = (j : Int) := by
        have := hij.out
        rw [show (i : Int) - 1 = (j : Int) by omega]
        exact IntWalk.i64_in _ (by omega)
      have q2 : IntKind.i64.wrap ((i : Int) + 1) = ((i + 1 : Nat) : Int) := by
        rw [show (i : Int) + 1 = ((i + 1 : Nat) : Int) by omega]
        exact IntWalk.i64_in _ (by omega)
      have hcmp := eqf_of x.1 y.1 sx sy wr.drew (by omega)
      have hdr : Below w.heap.size wr wr.drew := (Below.refl _ _).drew
      have y0 := hS _ (hbr.trans hdr)
      clear x1 x2 x3 y1 y2 y3 hx hy hc hN hr hlt2
      go_wp2
      go_region_held3 (fun w' => w'.cell? ⟨b, off + i * 2, none⟩ = some (.int .i64 (x.1 : Int)) ∧ w'.cell? ⟨b, off + i * 2 + 1, none⟩ = some sx ∧ w'.cell? ⟨b, off + j * 2, none⟩ = some (.int .i64 (y.1 : Int)) ∧ w'.cell? ⟨b, off + j * 2 + 1, none⟩ = some sy)
        (first | exact y0 | exact y2 | go_keep)
        ((go_at_call 116; refine hcmp.mono ?_; rintro e w2 ⟨rfl, hb2⟩; have hb02 := hbr.trans (hdr.trans (hb2.mono hbr.size)); have y2 := hS _ hb02))
      clear hS hcmp y0 y2
      go_wp2
      go_roundg (gk - 1)
      case measure => omega
      case rel => exact ⟨i + 1, by omega, by omega, rfl, hb02⟩
    · have hlti : ¬ (i : Int) < (l.length : Int) := by omega
      go_wp2
      go_ret
      exact ⟨rfl, hbr⟩
end Go.Proofs.YtoipjmjhplkibaaGreatDoor

